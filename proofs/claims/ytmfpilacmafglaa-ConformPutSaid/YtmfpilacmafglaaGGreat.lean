/-
  What 'Great' of layer 5 answers. No condition but that the grammar lies where it is said to lie.
-/
import Derived.Test.YtmfpilacmafglaaGAt
import Derived.Deep.RegionHeld3
import Derived.StillTailTactics
namespace Go.Proofs.Ytmfpilacmafglaa
open Go.RowKit

def greatS (s : Sl) : Bool := decide (40 < s.kinds.length)
def greatK (k : Kd) : Bool := decide (200 < k.name.size) || decide (20 < k.slots.length) || k.slots.any greatS
def greatG (g : Gr) : Bool := decide (40 < g.kinds.length) || g.kinds.any greatK
theorem drop_cons {α : Type} {l : List α} {k : Nat} {x : α} (h : l[k]? = some x) : l.drop k = x :: l.drop (k + 1) := by
  obtain ⟨hk, rfl⟩ := List.getElem?_eq_some_iff.1 h
  exact List.drop_eq_getElem_cons hk
theorem any_step {α : Type} {f : α → Bool} {l : List α} {k : Nat} {x : α} {r : Bool} (hr : r = (l.drop k).any f) (h : l[k]? = some x) : r = (f x || (l.drop (k + 1)).any f) := by rw [hr, drop_cons h]; rfl
theorem any_end {α : Type} {f : α → Bool} {l : List α} {k : Nat} {r : Bool} (hr : r = (l.drop k).any f) (h : l.length ≤ k) : r = false := by rw [hr, List.drop_eq_nil_of_le h]; rfl
theorem box_below (w : World) (o : Obj) : Below w.heap.size w (w.alloc o) := (Below.refl _ _).alloc (Nat.le_refl _) _

def GreatR (w : World) (c : Array Value) (l : List Kd) (i : Value) (wr : World) : Prop :=
  ∃ k : Nat, k ≤ l.length ∧ i = .int .i64 k ∧ wr.heap[w.heap.size]? = some (.cells c 55 (0, 0)) ∧ Below w.heap.size w wr ∧ l.any greatK = (l.drop k).any greatK
def GreatR2 (W : World) (l : List Sl) (j : Value) (wr : World) : Prop :=
  ∃ k : Nat, k ≤ l.length ∧ j = .int .i64 k ∧ W = wr ∧ l.any greatS = (l.drop k).any greatS

set_option maxRecDepth 100000 in
set_option maxHeartbeats 1000000 in
theorem great_any (w : World) (v : Value) (g : Gr) (hv : GrV w v g) (hf : g.fits) : Calls Try.prog 25 #[v] w (Says (greatG g) w) := by
  obtain ⟨ka, kc, rfl, hk⟩ := hv
  obtain ⟨l, root⟩ := g
  simp only at hk hf ⊢
  have hfl : (l.length : Int) ≤ 9223372036854775807 := hf.1
  have HF := Lib.hid hf.2
  have HK := Lib.hid hk
  clear hf hk
  by_cases h40 : 40 < l.length
  · have h40' : (40 : Int) < (l.length : Int) := by omega
    have HG := Lib.hid (show greatG ⟨l, root⟩ = true by simp [greatG, h40])
    go_enter Try.func25, Try.ntmps25
    go_wp2_with fail
    go_ret
    exact Says.mk HG.out (box_below _ _)
  · have h40' : ¬ (40 : Int) < (l.length : Int) := by omega
    have HG := Lib.hid (show greatG ⟨l, root⟩ = l.any greatK by simp [greatG, h40])
    go_enter Try.func25, Try.ntmps25
    go_wp2_with fail
    go_loopw [12] (fun i wr => GreatR w #[.slice ka l.length kc, .int .i64 root] l i wr) (fun i _ => l.length - (intOf i).toNat)
    case atStart => exact ⟨0, Nat.zero_le _, rfl, heap_alloc_new w _, box_below _ _, rfl⟩
    case round =>
      obtain ⟨k, hkl, rfl, hb, hbel, hany⟩ := hrel
      have p0 : wr.cell? ⟨w.heap.size, 0, none⟩ = some (.slice ka l.length kc) := by rw [cell_of_row wr _ 0 _ _ _ hb]; rfl
      have HB := Lib.hid (And.intro hb hbel)
      have HA := Lib.hid hany
      clear hb hbel hany
      by_cases hlt : k < l.length
      · obtain ⟨x, hx⟩ : ∃ x, l[k]? = some x := ⟨l[k], List.getElem?_eq_getElem hlt⟩
        have hfx := HF.out x (List.mem_of_getElem? hx)
        obtain ⟨b, off, rfl, hblt, hc⟩ := (HK.out.below HB.out.2) (by omega)
        obtain ⟨sa, sc, c0, c1, c2, hs⟩ := hc k x hx
        have HX := Lib.hid (any_step HA.out hx)
        have hs1 : (x.name.size : Int) ≤ 9223372036854775807 := hfx.1
        have hs2 : (x.slots.length : Int) ≤ 9223372036854775807 := hfx.2.1
        have HFX := Lib.hid hfx.2.2
        have HS := Lib.hid hs
        have hkl2 : (k : Int) < (l.length : Int) := by omega
        clear hx hc hs hfx
        by_cases h200 : 200 < x.name.size
        · have h200' : (200 : Int) < (x.name.size : Int) := by omega
          go_wp2_with fail
          go_ret
          exact Says.mk (by rw [HG.out, HX.out]; simp [greatK, h200]) HB.out.2
        · have h200' : ¬ (200 : Int) < (x.name.size : Int) := by omega
          by_cases h20 : 20 < x.slots.length
          · have h20' : (20 : Int) < (x.slots.length : Int) := by omega
            go_wp2_with fail
            go_ret
            exact Says.mk (by rw [HG.out, HX.out]; simp [greatK, h20]) HB.out.2
          · have h20' : ¬ (20 : Int) < (x.slots.length : Int) := by omega
            have HKX := Lib.hid (show greatK x = x.slots.any greatS by simp [greatK, h200, h20])
            go_wp2_with fail
            obtain ⟨wo, rfl⟩ : ∃ wo, wo = wr := ⟨_, rfl⟩
            go_loopw [40] (fun j wr => GreatR2 wo x.slots j wr) (fun j _ => x.slots.length - (intOf j).toNat)
            case atStart => exact ⟨0, Nat.zero_le _, rfl, rfl, rfl⟩
            case round =>
              obtain ⟨m, hm, rfl, rfl, hany2⟩ := hrel
              have HA2 := Lib.hid hany2
              clear hany2
              by_cases hlt2 : m < x.slots.length
              · obtain ⟨s, hsx⟩ : ∃ s, x.slots[m]? = some s := ⟨x.slots[m], List.getElem?_eq_getElem hlt2⟩
                have hfs : (s.kinds.length : Int) ≤ 9223372036854775807 := HFX.out s (List.mem_of_getElem? hsx)
                obtain ⟨b2, off2, rfl, hblt2, hc2⟩ := HS.out (by omega)
                obtain ⟨ka2, kc2, d0, d1, d2, hi⟩ := hc2 m s hsx
                have HX2 := Lib.hid (any_step HA2.out hsx)
                have hm2 : (m : Int) < (x.slots.length : Int) := by omega
                clear hsx hc2 hi
                by_cases h4 : 40 < s.kinds.length
                · have h4' : (40 : Int) < (s.kinds.length : Int) := by omega
                  go_wp2_with fail
                  go_ret
                  exact Says.mk (by rw [HG.out, HX.out, HKX.out, HX2.out]; simp [greatS, h4]) HB.out.2
                · have h4' : ¬ (40 : Int) < (s.kinds.length : Int) := by omega
                  go_wp2_with fail
                  exact ⟨⟨m + 1, by omega, by go_num, rfl, by rw [HX2.out]; simp [greatS, h4]⟩, by simp [intOf]; omega⟩
              · have he := any_end HA2.out (by omega)
                have HE := Lib.hid he
                clear he
                have hm2 : ¬ (m : Int) < (x.slots.length : Int) := by omega
                go_wp2_with fail
                exact ⟨⟨k + 1, by omega, by go_num, HB.out.1, HB.out.2, by rw [HX.out, HKX.out, HE.out]; rfl⟩, by simp [intOf]; omega⟩
      · have he := any_end HA.out (by omega)
        have HE := Lib.hid he
        clear he
        have hkl2 : ¬ (k : Int) < (l.length : Int) := by omega
        go_wp2_with fail
        go_ret
        exact Says.mk (by rw [HG.out, HE.out]) HB.out.2

theorem lt_of_some' {w : World} {k : Nat} {o : Obj} (h : w.heap[k]? = some o) : k < w.heap.size := (Array.getElem?_eq_some_iff.1 h).1
end Go.Proofs.Ytmfpilacmafglaa
