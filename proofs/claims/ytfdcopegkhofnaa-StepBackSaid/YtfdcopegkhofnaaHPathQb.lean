/-
  Path: the places from the root down to a node. No condition but that there are not too many nodes.
-/
import Derived.Test.YtfdcopegkhofnaaGIntsQb
import Derived.Test.YtfdcopegkhofnaaVFaultQb
import Derived.Deep.RegionHeld3
import Derived.StillTailTactics
namespace Go.Proofs.Ytfdcopegkhofnaa
open Go.RowKit Go.Shelf
set_option linter.unusedVariables false
set_option linter.unusedSimpArgs false

def natI (p : List Nat) : List Int := p.map (fun n : Nat => (n : Int))
theorem natI_length (p : List Nat) : (natI p).length = p.length := by simp [natI]
theorem make_len (W : World) (q : Nat) (h : q ≤ 1000000) : ∃ zs : Array Value, zs.size = q ∧ (Instr.makeSlice 64 (.int .i64 (q : Int)) (.int .i64 (q : Int))).run Try.prog W = .ok (.slice (some ⟨W.heap.size, 0, none⟩) q q) (W.alloc (.cells zs 3)) := by
  obtain ⟨i0, hi, hz0, hz1, hz2⟩ := info_parts Try.infoInt
  have hr := run_makeSlice (P := Try.prog) W 64 3 i0 (.int .i64 0) Try.underlying64 hi hz0 .i64 .i64 (q : Int) (q : Int) (by omega) (by omega) (by rw [hz1]; omega) (by rw [hz2]; omega) (by omega)
  rw [hz1] at hr
  exact ⟨_, (size_madeCells _ _).trans (Nat.mul_one q), by rw [hr]; simp; rfl⟩
/-- A path of a call's own. -/
def PathC (w : World) (p : Option (List Nat)) (e : Ending) (w' : World) : Prop := ∃ v, e = .returned (.tuple #[v, .bool p.isSome]) ∧ w'.ownsRow w.heap.size 3 1 v (natI (p.getD [])).length ((natI (p.getD [])).map intV) ∧ Below w.heap.size w w'
/-- So many places are told. -/
def PathI (W : World) (w0 : World) (zs : Array Value) (p : List Nat) (k : Nat) (wr : World) : Prop := wr.ownsRow w0.heap.size 3 1 (.slice (some ⟨W.heap.size, 0, none⟩) p.length p.length) p.length (((natI p).map intV).take k ++ zs.toList.drop k) ∧ Below W.heap.size W wr
theorem PathI.step {W w0 wr : World} {zs : Array Value} {p : List Nat} {k x : Nat} {o : Obj} (h : PathI W w0 zs p k wr) (hz : zs.size = p.length) (hx : p[k]? = some x) : PathI W w0 zs p (k + 1) ((wr.setCell ⟨W.heap.size, k, none⟩ (.int .i64 (x : Int))).alloc o) := by
  have hk := (List.getElem?_eq_some_iff.1 hx).1
  have h2 := (World.ownsRow.stored h.1 k (.int .i64 (x : Int))).1
  have e : (((natI p).map intV).take k ++ zs.toList.drop k).set k (.int .i64 (x : Int)) = ((natI p).map intV).take (k + 1) ++ zs.toList.drop (k + 1) := by
    have hl : (((natI p).map intV).take k).length = k := by rw [List.length_take, List.length_map, natI_length]; omega
    rw [List.set_append_right _ _ (by omega), hl, Nat.sub_self]
    have hz2 : k < zs.toList.length := by rw [Array.length_toList]; omega
    rw [← List.getElem_cons_drop hz2, List.set_cons_zero, List.take_add_one]
    have h3 : ((natI p).map intV)[k]? = some (.int .i64 (x : Int)) := by rw [List.getElem?_map, natI, List.getElem?_map, hx]; rfl
    rw [h3]; simp
  rw [e] at h2
  have h4 := h.2.setCell (p := ⟨W.heap.size, k, none⟩) (Nat.le_refl _) (.int .i64 (x : Int))
  exact ⟨h2.alloc o, h4.alloc h4.size o⟩
set_option maxRecDepth 100000 in
set_option maxHeartbeats 2000000 in
theorem path_any (w : World) (S : Nat → Prop) (nv : Value) (t : Tr) (id : Int) (hS : ∀ x, S x → x < w.heap.size) (ht : TrAt w S nv t) (hsz : foSize t.kids ≤ 400000) : Calls Try.prog 63 #[nv, .int .i64 id] w (PathC w (pathT id t)) := by
  obtain ⟨ka, tc, rfl, hcap, hk⟩ := ht
  have hb := box_below w (.cells #[.int .i64 t.id, .int .i64 t.kind, .string t.text, .slice ka (foLen t.kids) tc] 24)
  have hway := way_any (w.alloc (.cells #[.int .i64 t.id, .int .i64 t.kind, .string t.text, .slice ka (foLen t.kids) tc] 24)) S _ t id (fun x hx => Nat.lt_of_lt_of_le (hS x hx) hb.size) ⟨ka, tc, rfl, hcap, hk.below hb hS⟩ hsz
  have HC := Lib.hid (And.intro hway hb)
  obtain ⟨n, hn⟩ : ∃ n, n = foLen t.kids := ⟨_, rfl⟩
  rw [← hn] at HC ⊢
  clear hway hb hk hcap hS hn
  go_enter Try.func63, Try.ntmps63
  go_wp2_with fail
  refine HC.out.1.mono ?_
  rintro e W ⟨rv, L, rfl, hw, hb, _⟩
  have hbW : Below w.heap.size w W := HC.out.2.trans (hb.mono HC.out.2.size)
  rcases hw.path with ⟨rfl, hp⟩ | ⟨p, hp, hpl, hlen⟩
  · obtain ⟨a, c, rfl⟩ := owns_slice hw.rows
    have HE := Lib.hid (And.intro hp hbW)
    clear hw hb hp hbW HC
    simp only [List.length_nil]
    go_wp2_with fail
    go_ret2
    exact ⟨.slice none 0 0, by rw [HE.out.1]; rfl, by rw [HE.out.1]; exact World.ownsRow_nil _ _ _ _, HE.out.2⟩
  · obtain ⟨m, hm⟩ : ∃ m, m = p.length := ⟨_, rfl⟩
    rw [← hm] at hlen
    obtain ⟨g, n2, cap, _, _, _, _, _, _, rfl, rfl, hnc, _⟩ := hw.at (k := 0) (by omega)
    have hfew := hw.few
    have hrow : ∀ (k x : Nat), p[k]? = some x → ∃ (a : Option Addr) (q c : Nat), W.cell? ⟨g, 2 + k * 2, none⟩ = some (.slice a q c) ∧ W.cell? ⟨g, 2 + k * 2 + 1, none⟩ = some (.int .i64 (x : Int)) := fun k x hx => by
      obtain ⟨g', _, _, b, off, q, c, pl, u2, e2, _, _, c0, c2, _, _, _, hpk2, _⟩ := hw.at (k := k + 1) (by have := (List.getElem?_eq_some_iff.1 hx).1; omega)
      cases e2
      rw [hpl, List.getElem?_cons_succ, hx] at hpk2
      cases hpk2
      rw [show (k + 1) * 2 = 2 + k * 2 by omega] at c0 c2
      exact ⟨_, _, _, c0, c2⟩
    rw [hlen]
    rw [hlen] at hnc hfew
    obtain ⟨zs, hzs, hmk⟩ := make_len W m (by omega)
    have hgl : g < W.heap.size := (owns_bounds hw.rows (g := g) rfl).2
    have HST : Hid (PathI W w zs p 0 (W.alloc (.cells zs 3))) := Lib.hid ⟨⟨by rw [List.take_zero, List.nil_append, List.drop_zero, Array.length_toList]; omega, Or.inr ⟨W.heap.size, p.length, zs, rfl, hbW.size, heap_alloc_new W _, Nat.le_refl _, by unfold maxLen; omega, by omega, by rw [List.take_zero, List.nil_append, List.drop_zero]; rw [List.take_of_length_le (by rw [Array.length_toList]; omega)]⟩⟩, box_below W _⟩
    have HE := Lib.hid (And.intro hp (And.intro hbW (And.intro hm (And.intro hrow hzs))))
    have hmb : m ≤ 1000000 := by omega
    have hmz : ((m : Int) + 1 == 0) = false := by simp; omega
    have hmw : IntKind.i64.wrap (m : Int) = (m : Int) := IntWalk.i64_in _ (by omega)
    have hm1 : (1 : Int) ≤ (m : Int) + 1 := by omega
    have hcc : (m : Int) + 1 ≤ (cap : Int) := by omega
    clear hw hb hp hbW HC hlen hpl hrow hzs hfew hm
    go_wp2_with fail
    all_goals
      go_loopw [23] (fun i wr => ∃ k : Nat, k ≤ m ∧ i = .int .i64 (k : Int) ∧ Hid (PathI W w zs p k wr)) (fun i _ => m - (intOf i).toNat)
      case atStart => exact ⟨0, Nat.zero_le _, rfl, HST⟩
      case round =>
        obtain ⟨k, hk, rfl, hh⟩ := hrel
        clear HST
        by_cases hlt : k < m
        · first
            | (exfalso; omega)
            | (obtain ⟨x, hx⟩ : ∃ x, p[k]? = some x := ⟨_, List.getElem?_eq_getElem (by rw [← HE.out.2.2.1]; exact hlt)⟩
               obtain ⟨a, q, c, c0, c1⟩ := HE.out.2.2.2.1 k x hx
               obtain ⟨v0, hv0⟩ : ∃ v0, zs.toList[k]? = some v0 := ⟨_, List.getElem?_eq_getElem (by rw [Array.length_toList, HE.out.2.2.2.2]; exact hlt)⟩
               have hown := hh.out.1
               have hcell := World.ownsRow.cellAt hown k (by rw [← HE.out.2.2.1]; omega)
               have hfz := World.ownsRow.frozenAt hown k
               rw [List.getElem?_append_right (by rw [List.length_take, List.length_map, natI_length]; omega), List.length_take, List.length_map, natI_length, List.getElem?_drop, show k + (k - min k p.length) = k by (have := HE.out.2.2.1; omega), hv0] at hcell
               have d0 : wr.cell? ⟨g, 2 + k * 2, none⟩ = some (.slice a q c) := (hh.out.2.cell (p := ⟨g, 2 + k * 2, none⟩) hgl).trans c0
               have d1 : wr.cell? ⟨g, 2 + k * 2 + 1, none⟩ = some (.int .i64 (x : Int)) := (hh.out.2.cell (p := ⟨g, 2 + k * 2 + 1, none⟩) hgl).trans c1
               have hWl : W.heap.size < wr.heap.size := (World.block_lt_of_cell? _ _ hcell)
               have hcellA : ∀ o, (wr.alloc o).cell? ⟨W.heap.size, k, none⟩ = some v0 := fun o => (World.cell?_of_block (Below.heap_alloc wr o W.heap.size hWl)).trans hcell
               have hfzA : ∀ o, (wr.alloc o).frozen? ⟨W.heap.size, k, none⟩ = false := fun o => (World.frozen?_of_block (Below.heap_alloc wr o W.heap.size hWl)).trans hfz
               have hnx := fun o => hh.out.step (o := o) (by rw [HE.out.2.2.2.2]; exact HE.out.2.2.1) hx
               have HN := Lib.hid hnx
               have hki : (k : Int) < (m : Int) := by omega
               have HLT := Lib.hid hlt
               clear hx c0 c1 hv0 hown hcell hfz hnx hlt hk hh
               go_wp2_with fail
               exact ⟨⟨k + 1, by have := HLT.out; omega, by go_num, Lib.hid (HN.out _)⟩, by have := HLT.out; simp [intOf]; omega⟩)
        · have hki : ¬ (k : Int) < (m : Int) := by omega
          have hkm : k = m := by omega
          have HO := Lib.hid (And.intro hh.out hkm)
          clear hh hk hlt hkm
          go_wp2_with fail
          go_ret2
          obtain ⟨⟨ho, hb9⟩, hkm⟩ := HO.out
          refine ⟨.slice (some ⟨W.heap.size, 0, none⟩) m m, by rw [HE.out.1]; rfl, ?_, HE.out.2.1.trans (hb9.mono HE.out.2.1.size)⟩
          rw [HE.out.1]
          show World.ownsRow _ _ _ _ _ (natI p).length ((natI p).map intV)
          rw [natI_length]
          rw [List.take_of_length_le (by rw [List.length_map, natI_length]; have := HE.out.2.2.1; omega), List.drop_eq_nil_of_le (by rw [Array.length_toList]; have := HE.out.2.2.2.2; omega), List.append_nil] at ho
          rw [HE.out.2.2.1]
          exact ho
end Go.Proofs.Ytfdcopegkhofnaa
