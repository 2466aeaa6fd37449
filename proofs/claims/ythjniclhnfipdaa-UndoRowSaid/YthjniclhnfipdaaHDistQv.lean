/-
  What the document's walk over a tree tells, where it is not cut off: its nodes and their depths. No condition but that there are not too many nodes.
  The document's own Ids of a tree. No condition but that there are not too many nodes.
  Path: the places from the root down to a node. No condition but that there are not too many nodes.
  Within and Common: whether a node is in another one's subtree, and the lowest node that has two. No condition but that there are not too many nodes.
  Above: the ids above a node, as a function over which one ranges. No condition but that there are not too many nodes.
  Trees whose ids are all different, plainly: what stands at the path of an id, and what is above what. No condition.
  What a walk over a tree tells, as a row of spots: plain definitions and their laws. No condition.
  The program's 'stretched'. No condition but that the row and the slot lie where they are said to lie, and the slot may be.
  atFault: whether a node may not be at a depth, behind nodes of those ids. No condition but the bounds of texts and ids that a host keeps.
  fault: which node is at fault first. No condition but the bounds of texts and ids that a host keeps, and that there are not too many nodes.
-/
import Derived.Test.YthjniclhnfipdaaRSameQv
import Derived.OwnWalk
import Derived.Test.YthjniclhnfipdaaGIntsQv
import Derived.Deep.RegionHeld3
import Derived.StillTailTactics
import Derived.Deep.RegionHeld
import Derived.Test.YthjniclhnfipdaaEHeldQv
import Derived.Test.YthjniclhnfipdaaHPureQv
import Derived.Deep.AppendLies
import Derived.Test.YthjniclhnfipdaaTreeQv
import Derived.Test.YthjniclhnfipdaaERevQv
import Derived.Test.YthjniclhnfipdaaGStrPQv
import Derived.Laws.CopyOwn
import Derived.Deep.LoopGhost
import Derived.WalkMore
import Derived.RangeFuncNested
import Derived.RangeFuncBound
import Derived.RangeFuncCalls
import Derived.RangeFuncLeaves
import Derived.RangeFuncWrites
import Derived.Shelf.RegionOpen
import Derived.OwnWalkIn
import Derived.TacticsInMore
import Derived.LoopNIn
import Derived.LoopIn
import Derived.OrdersIn
import Derived.Maps.OwnIn
namespace Go.Proofs.Ythjniclhnfipdaa
open Go.RowKit
set_option linter.unusedVariables false

theorem spF_snoc (d : Nat) : ∀ (f : Fo) (b o : Nat) (k : Int × Int × ByteArray) (l : Fo), spF d (foSnoc f b o k l) = spF d f ++ ((d, k, l) :: spF (d + 1) l)
  | .nil, _, _, _, _ => by simp [foSnoc, spF]
  | .node _ _ _ l' r, b, o, k, l => by simp [foSnoc, spF, spF_snoc d r b o k l, List.append_assoc]
def spT (d : Nat) (t : Tr) : List Sp := (d, (t.id, t.kind, t.text), t.kids) :: spF (d + 1) t.kids
theorem spT_root (t : Tr) : spT 1 t = spF 1 (rootF t) := by simp [spT, rootF, spF]
def SpotAt (w : World) (S : Nat → Prop) (xs : List Value) (i : Nat) (x : Sp) : Prop :=
  xs[i * 5]? = some (.int .i64 x.2.1.1) ∧ xs[i * 5 + 1]? = some (.int .i64 x.2.1.2.1) ∧ xs[i * 5 + 2]? = some (.string x.2.1.2.2) ∧ (∃ ka cap, xs[i * 5 + 3]? = some (.slice ka (foLen x.2.2) cap) ∧ foLen x.2.2 ≤ cap ∧ FoAt w S x.2.2 ka) ∧ xs[i * 5 + 4]? = some (.int .i64 (x.1 : Int))
/-- A row of spots. -/
def SpotsN (S : Nat → Prop) (w : World) (B : Nat) (rv : Value) (n : Nat) (T : List Sp) : Prop := T.length = n ∧ ∃ xs, w.ownsRow B 51 5 rv n xs ∧ ∀ i x, T[i]? = some x → SpotAt w S xs i x
theorem SpotAt.kept {w w' : World} {S : Nat → Prop} {xs : List Value} {i : Nat} {x : Sp} (h : SpotAt w S xs i x) (hk : ∀ k, S k → w'.heap[k]? = w.heap[k]?) : SpotAt w' S xs i x := by
  obtain ⟨a, b, c, ⟨ka, cap, e, f, g⟩, z⟩ := h
  exact ⟨a, b, c, ⟨ka, cap, e, f, g.kept fun k hs => ⟨hs, hk k hs⟩⟩, z⟩
theorem SpotsN.bounds {S : Nat → Prop} {w : World} {B : Nat} {rv : Value} {n : Nat} {T : List Sp} (h : SpotsN S w B rv n T) {g : Nat} (hg : rv.ownBlock = some g) : B ≤ g ∧ g < w.heap.size := by
  obtain ⟨_, xs, ho, _⟩ := h
  exact owns_bounds ho hg
theorem Grew.lowN {S : Nat → Prop} {w wr : World} {B n : Nat} {rv l : Value} {T : List Sp} (h : Grew w wr rv l) (hs : SpotsN S w B rv n T) (hB : B ≤ w.heap.size) : ∀ k, k < B → wr.heap[k]? = w.heap[k]? := fun k hk =>
  h.1.block k (by omega) (fun e => by have := (hs.bounds e.symm).1; omega)
theorem spotsN_snoc {w w' : World} {S : Nat → Prop} {xs : List Value} {n : Nat} {T : List Sp} {x : Sp} {ka : Option Addr} {cap : Nat} (hl : xs.length = n * 5) (hT : T.length = n) (hx : ∀ i y, T[i]? = some y → SpotAt w S xs i y) (hk : ∀ k, S k → w'.heap[k]? = w.heap[k]?) (hc : foLen x.2.2 ≤ cap) (hf : FoAt w' S x.2.2 ka) :
    ∀ i y, (T ++ [x])[i]? = some y → SpotAt w' S (xs ++ [.int .i64 x.2.1.1, .int .i64 x.2.1.2.1, .string x.2.1.2.2, .slice ka (foLen x.2.2) cap, .int .i64 (x.1 : Int)]) i y := fun i y hi => by
  by_cases h : i < n
  · rw [List.getElem?_append_left (by omega)] at hi
    obtain ⟨a, b, c, ⟨kb, cb, e, f, g⟩, z⟩ := (hx i y hi).kept hk
    exact ⟨by rw [List.getElem?_append_left (by omega)]; exact a, by rw [List.getElem?_append_left (by omega)]; exact b, by rw [List.getElem?_append_left (by omega)]; exact c, ⟨kb, cb, by rw [List.getElem?_append_left (by omega)]; exact e, f, g⟩, by rw [List.getElem?_append_left (by omega)]; exact z⟩
  · have hil := (List.getElem?_eq_some_iff.1 hi).1
    have : i = n := by simp at hil; omega
    subst this
    rw [List.getElem?_append_right (by omega), hT, Nat.sub_self] at hi
    simp at hi
    subst hi
    refine ⟨?_, ?_, ?_, ⟨ka, cap, ?_, hc, hf⟩, ?_⟩ <;> (rw [List.getElem?_append_right (by omega), hl]; simp)
end Go.Proofs.Ythjniclhnfipdaa
namespace Go.Proofs.Ythjniclhnfipdaa
open Go.RowKit
set_option linter.unusedVariables false
set_option linter.unusedSimpArgs false

theorem Try.infoInt : (Try.prog.info? 3).map (fun i => (i.zero, i.size, i.bytes)) = some (some (.int .i64 0), 1, 8) := by kernel_rfl
def intV (n : Int) : Value := .int .i64 n
end Go.Proofs.Ythjniclhnfipdaa
namespace Go.Proofs.Ythjniclhnfipdaa
open Go.RowKit Go.Shelf
set_option linter.unusedVariables false
set_option linter.unusedSimpArgs false

def natI (p : List Nat) : List Int := p.map (fun n : Nat => (n : Int))
theorem natI_length (p : List Nat) : (natI p).length = p.length := by simp [natI]
theorem make_len (W : World) (q : Nat) (h : q ≤ 1000000) : ∃ zs : Array Value, zs.size = q ∧ (Instr.makeSlice 64 (.int .i64 (q : Int)) (.int .i64 (q : Int))).run Try.prog W = .ok (.slice (some ⟨W.heap.size, 0, none⟩) q q) (W.alloc (.cells zs 3)) := by
  obtain ⟨i0, hi, hz0, hz1, hz2⟩ := info_parts Try.infoInt
  have hr := run_makeSlice (P := Try.prog) W 64 3 i0 (.int .i64 0) Try.underlying64 hi hz0 .i64 .i64 (q : Int) (q : Int) (by omega) (by omega) (by rw [hz1]; omega) (by rw [hz2]; omega) (by omega)
  rw [hz1] at hr
  exact ⟨_, (size_madeCells _ _).trans (Nat.mul_one q), by rw [hr]; simp; rfl⟩
/-- A path of a call's own. -/
def PathC (w : World) (p : Option (List Nat)) (e : Ending) (w' : World) : Prop := ∃ v, e = .returned (.tuple #[v, .bool p.isSome]) ∧ w'.ownsRow w.heap.size 3 1 v (natI (p.getD [])).length ((natI (p.getD [])).map intV) ∧ Below w.heap.size w w'
/-- So many places are told. -/
def PathI (W : World) (w0 : World) (zs : Array Value) (p : List Nat) (k : Nat) (wr : World) : Prop := wr.ownsRow w0.heap.size 3 1 (.slice (some ⟨W.heap.size, 0, none⟩) p.length p.length) p.length (((natI p).map intV).take k ++ zs.toList.drop k) ∧ Below W.heap.size W wr
theorem PathI.step {W w0 wr : World} {zs : Array Value} {p : List Nat} {k x : Nat} {o : Obj} (h : PathI W w0 zs p k wr) (hz : zs.size = p.length) (hx : p[k]? = some x) : PathI W w0 zs p (k + 1) ((wr.setCell ⟨W.heap.size, k, none⟩ (.int .i64 (x : Int))).alloc o) := by
  have hk := (List.getElem?_eq_some_iff.1 hx).1
  have h2 := (World.ownsRow.stored h.1 k (.int .i64 (x : Int))).1
  have e : (((natI p).map intV).take k ++ zs.toList.drop k).set k (.int .i64 (x : Int)) = ((natI p).map intV).take (k + 1) ++ zs.toList.drop (k + 1) := by
    have hl : (((natI p).map intV).take k).length = k := by rw [List.length_take, List.length_map, natI_length]; omega
    rw [List.set_append_right _ _ (by omega), hl, Nat.sub_self]
    have hz2 : k < zs.toList.length := by rw [Array.length_toList]; omega
    rw [← List.getElem_cons_drop hz2, List.set_cons_zero, List.take_add_one]
    have h3 : ((natI p).map intV)[k]? = some (.int .i64 (x : Int)) := by rw [List.getElem?_map, natI, List.getElem?_map, hx]; rfl
    rw [h3]; simp
  rw [e] at h2
  have h4 := h.2.setCell (p := ⟨W.heap.size, k, none⟩) (Nat.le_refl _) (.int .i64 (x : Int))
  exact ⟨h2.alloc o, h4.alloc h4.size o⟩
set_option maxRecDepth 100000 in
set_option maxHeartbeats 2000000 in
theorem path_any (w : World) (S : Nat → Prop) (nv : Value) (t : Tr) (id : Int) (hS : ∀ x, S x → x < w.heap.size) (ht : TrAt w S nv t) (hsz : foSize t.kids ≤ 400000) : Calls Try.prog 65 #[nv, .int .i64 id] w (PathC w (pathT id t)) := by
  obtain ⟨ka, tc, rfl, hcap, hk⟩ := ht
  have hb := box_below w (.cells #[.int .i64 t.id, .int .i64 t.kind, .string t.text, .slice ka (foLen t.kids) tc] 24)
  have hway := way_any (w.alloc (.cells #[.int .i64 t.id, .int .i64 t.kind, .string t.text, .slice ka (foLen t.kids) tc] 24)) S _ t id (fun x hx => Nat.lt_of_lt_of_le (hS x hx) hb.size) ⟨ka, tc, rfl, hcap, hk.below hb hS⟩ hsz
  have HC := Lib.hid (And.intro hway hb)
  obtain ⟨n, hn⟩ : ∃ n, n = foLen t.kids := ⟨_, rfl⟩
  rw [← hn] at HC ⊢
  clear hway hb hk hcap hS hn
  go_enter Try.func65, Try.ntmps65
  go_wp2_with fail
  refine HC.out.1.mono ?_
  rintro e W ⟨rv, L, rfl, hw, hb, _⟩
  have hbW : Below w.heap.size w W := HC.out.2.trans (hb.mono HC.out.2.size)
  rcases hw.path with ⟨rfl, hp⟩ | ⟨p, hp, hpl, hlen⟩
  · obtain ⟨a, c, rfl⟩ := owns_slice hw.rows
    have HE := Lib.hid (And.intro hp hbW)
    clear hw hb hp hbW HC
    simp only [List.length_nil]
    go_wp2_with fail
    go_ret2
    exact ⟨.slice none 0 0, by rw [HE.out.1]; rfl, by rw [HE.out.1]; exact World.ownsRow_nil _ _ _ _, HE.out.2⟩
  · obtain ⟨m, hm⟩ : ∃ m, m = p.length := ⟨_, rfl⟩
    rw [← hm] at hlen
    obtain ⟨g, n2, cap, _, _, _, _, _, _, rfl, rfl, hnc, _⟩ := hw.at (k := 0) (by omega)
    have hfew := hw.few
    have hrow : ∀ (k x : Nat), p[k]? = some x → ∃ (a : Option Addr) (q c : Nat), W.cell? ⟨g, 2 + k * 2, none⟩ = some (.slice a q c) ∧ W.cell? ⟨g, 2 + k * 2 + 1, none⟩ = some (.int .i64 (x : Int)) := fun k x hx => by
      obtain ⟨g', _, _, b, off, q, c, pl, u2, e2, _, _, c0, c2, _, _, _, hpk2, _⟩ := hw.at (k := k + 1) (by have := (List.getElem?_eq_some_iff.1 hx).1; omega)
      cases e2
      rw [hpl, List.getElem?_cons_succ, hx] at hpk2
      cases hpk2
      rw [show (k + 1) * 2 = 2 + k * 2 by omega] at c0 c2
      exact ⟨_, _, _, c0, c2⟩
    rw [hlen]
    rw [hlen] at hnc hfew
    obtain ⟨zs, hzs, hmk⟩ := make_len W m (by omega)
    have hgl : g < W.heap.size := (owns_bounds hw.rows (g := g) rfl).2
    have HST : Hid (PathI W w zs p 0 (W.alloc (.cells zs 3))) := Lib.hid ⟨⟨by rw [List.take_zero, List.nil_append, List.drop_zero, Array.length_toList]; omega, Or.inr ⟨W.heap.size, p.length, zs, rfl, hbW.size, heap_alloc_new W _, Nat.le_refl _, by unfold maxLen; omega, by omega, by rw [List.take_zero, List.nil_append, List.drop_zero]; rw [List.take_of_length_le (by rw [Array.length_toList]; omega)]⟩⟩, box_below W _⟩
    have HE := Lib.hid (And.intro hp (And.intro hbW (And.intro hm (And.intro hrow hzs))))
    have hmb : m ≤ 1000000 := by omega
    have hmz : ((m : Int) + 1 == 0) = false := by simp; omega
    have hmw : IntKind.i64.wrap (m : Int) = (m : Int) := IntWalk.i64_in _ (by omega)
    have hm1 : (1 : Int) ≤ (m : Int) + 1 := by omega
    have hcc : (m : Int) + 1 ≤ (cap : Int) := by omega
    clear hw hb hp hbW HC hlen hpl hrow hzs hfew hm
    go_wp2_with fail
    all_goals
      go_loopw [23] (fun i wr => ∃ k : Nat, k ≤ m ∧ i = .int .i64 (k : Int) ∧ Hid (PathI W w zs p k wr)) (fun i _ => m - (intOf i).toNat)
      case atStart => exact ⟨0, Nat.zero_le _, rfl, HST⟩
      case round =>
        obtain ⟨k, hk, rfl, hh⟩ := hrel
        clear HST
        by_cases hlt : k < m
        · first
            | (exfalso; omega)
            | (obtain ⟨x, hx⟩ : ∃ x, p[k]? = some x := ⟨_, List.getElem?_eq_getElem (by rw [← HE.out.2.2.1]; exact hlt)⟩
               obtain ⟨a, q, c, c0, c1⟩ := HE.out.2.2.2.1 k x hx
               obtain ⟨v0, hv0⟩ : ∃ v0, zs.toList[k]? = some v0 := ⟨_, List.getElem?_eq_getElem (by rw [Array.length_toList, HE.out.2.2.2.2]; exact hlt)⟩
               have hown := hh.out.1
               have hcell := World.ownsRow.cellAt hown k (by rw [← HE.out.2.2.1]; omega)
               have hfz := World.ownsRow.frozenAt hown k
               rw [List.getElem?_append_right (by rw [List.length_take, List.length_map, natI_length]; omega), List.length_take, List.length_map, natI_length, List.getElem?_drop, show k + (k - min k p.length) = k by (have := HE.out.2.2.1; omega), hv0] at hcell
               have d0 : wr.cell? ⟨g, 2 + k * 2, none⟩ = some (.slice a q c) := (hh.out.2.cell (p := ⟨g, 2 + k * 2, none⟩) hgl).trans c0
               have d1 : wr.cell? ⟨g, 2 + k * 2 + 1, none⟩ = some (.int .i64 (x : Int)) := (hh.out.2.cell (p := ⟨g, 2 + k * 2 + 1, none⟩) hgl).trans c1
               have hWl : W.heap.size < wr.heap.size := (World.block_lt_of_cell? _ _ hcell)
               have hcellA : ∀ o, (wr.alloc o).cell? ⟨W.heap.size, k, none⟩ = some v0 := fun o => (World.cell?_of_block (Below.heap_alloc wr o W.heap.size hWl)).trans hcell
               have hfzA : ∀ o, (wr.alloc o).frozen? ⟨W.heap.size, k, none⟩ = false := fun o => (World.frozen?_of_block (Below.heap_alloc wr o W.heap.size hWl)).trans hfz
               have hnx := fun o => hh.out.step (o := o) (by rw [HE.out.2.2.2.2]; exact HE.out.2.2.1) hx
               have HN := Lib.hid hnx
               have hki : (k : Int) < (m : Int) := by omega
               have HLT := Lib.hid hlt
               clear hx c0 c1 hv0 hown hcell hfz hnx hlt hk hh
               go_wp2_with fail
               exact ⟨⟨k + 1, by have := HLT.out; omega, by go_num, Lib.hid (HN.out _)⟩, by have := HLT.out; simp [intOf]; omega⟩)
        · have hki : ¬ (k : Int) < (m : Int) := by omega
          have hkm : k = m := by omega
          have HO := Lib.hid (And.intro hh.out hkm)
          clear hh hk hlt hkm
          go_wp2_with fail
          go_ret2
          obtain ⟨⟨ho, hb9⟩, hkm⟩ := HO.out
          refine ⟨.slice (some ⟨W.heap.size, 0, none⟩) m m, by rw [HE.out.1]; rfl, ?_, HE.out.2.1.trans (hb9.mono HE.out.2.1.size)⟩
          rw [HE.out.1]
          show World.ownsRow _ _ _ _ _ (natI p).length ((natI p).map intV)
          rw [natI_length]
          rw [List.take_of_length_le (by rw [List.length_map, natI_length]; have := HE.out.2.2.1; omega), List.drop_eq_nil_of_le (by rw [Array.length_toList]; have := HE.out.2.2.2.2; omega), List.append_nil] at ho
          rw [HE.out.2.2.1]
          exact ho
end Go.Proofs.Ythjniclhnfipdaa
namespace Go.Proofs.Ythjniclhnfipdaa
open Go.RowKit Go.Shelf
set_option linter.unusedVariables false
set_option linter.unusedSimpArgs false

theorem lcp_cons (p q : List Nat) : lcp (0 :: p) (0 :: q) = lcp p q + 1 := by simp [lcp]
theorem lcp_nil (l : List Nat) : lcp ([] : List Nat) l = 0 := by simp [lcp]
theorem lcp_nil' (l : List Nat) : lcp l ([] : List Nat) = 0 := by cases l <;> simp [lcp]
theorem places_nil : places [] = [] := rfl
set_option maxRecDepth 100000 in
set_option maxHeartbeats 2000000 in
theorem within_any (w : World) (S : Nat → Prop) (nv : Value) (t : Tr) (a b : Int) (hS : ∀ x, S x → x < w.heap.size) (ht : TrAt w S nv t) (hsz : foSize t.kids ≤ 400000) : Calls Try.prog 63 #[nv, .int .i64 a, .int .i64 b] w fun e w' => e = .returned (.bool (withinT a b t)) ∧ Below w.heap.size w w' := by
  obtain ⟨ka, tc, rfl, hcap, hk⟩ := ht
  obtain ⟨B, hB⟩ : ∃ B, B = w.alloc (.cells #[.int .i64 t.id, .int .i64 t.kind, .string t.text, .slice ka (foLen t.kids) tc] 24) := ⟨_, rfl⟩
  have hb := box_below w (.cells #[.int .i64 t.id, .int .i64 t.kind, .string t.text, .slice ka (foLen t.kids) tc] 24)
  have hbx := heap_alloc_new w (.cells #[.int .i64 t.id, .int .i64 t.kind, .string t.text, .slice ka (foLen t.kids) tc] 24)
  rw [← hB] at hb hbx
  have hway := fun (i : Int) (X : World) (hX : Below B.heap.size B X) => way_any X S (.agg #[.int .i64 t.id, .int .i64 t.kind, .string t.text, .slice ka (foLen t.kids) tc]) t i (fun x hx => Nat.lt_of_lt_of_le (hS x hx) (Nat.le_trans hb.size hX.size)) ⟨ka, tc, rfl, hcap, hk.below (hb.trans (hX.mono hb.size)) hS⟩ hsz
  obtain ⟨n, hn⟩ : ∃ n, n = foLen t.kids := ⟨_, rfl⟩
  rw [← hn] at hB hbx
  simp only [← hn] at hway
  have HC := Lib.hid (And.intro hway (And.intro hb (And.intro hB hbx)))
  rw [← hn]
  obtain ⟨pr, hpr⟩ : ∃ pr, pr = withinT a b t := ⟨_, rfl⟩
  have HP := Lib.hid hpr
  have hpe : (.bool (withinT a b t) : Value) = (.bool (pr)) := by rw [hpr]
  rw [hpe]
  clear hway hb hk hcap hS hn hpr hpe hB hbx
  go_enter Try.func63, Try.ntmps63
  go_wp2_with fail
  rw [← HC.out.2.2.1]
  refine (HC.out.1 a B (Below.refl _ _)).mono ?_
  rintro e W ⟨rv, L, rfl, hw, hb, _⟩
  have hbxW := (hb.block _ (lt_of_heap HC.out.2.2.2)).trans HC.out.2.2.2
  have n0 : W.cell? ⟨w.heap.size, 0, none⟩ = some (.int .i64 t.id) := by rw [cell_of_row _ _ 0 _ _ _ hbxW]; rfl
  have n1 : W.cell? ⟨w.heap.size, 1, none⟩ = some (.int .i64 t.kind) := by rw [cell_of_row _ _ 1 _ _ _ hbxW]; rfl
  have n2 : W.cell? ⟨w.heap.size, 2, none⟩ = some (.string t.text) := by rw [cell_of_row _ _ 2 _ _ _ hbxW]; rfl
  have n3 : W.cell? ⟨w.heap.size, 3, none⟩ = some (.slice ka n tc) := by rw [cell_of_row _ _ 3 _ _ _ hbxW]; rfl
  have HW := Lib.hid (And.intro hw hb)
  clear hw hb hbxW
  go_wp2_with fail
  refine (HC.out.1 b W HW.out.2).mono ?_
  rintro e W2 ⟨rv2, L2, rfl, hw2, hb2, _⟩
  have hw := HW.out.1.kept hb2
  have hb9 : Below w.heap.size w W2 := (HC.out.2.1.trans (HW.out.2.mono HC.out.2.1.size)).trans (hb2.mono (Nat.le_trans HC.out.2.1.size HW.out.2.size))
  have hsh := shared_any W2 rv rv2 L L2 hw.rows hw2.rows (by have := hw.few; omega) (by have := hw2.few; omega)
  rw [lcp_places L L2 hw.ok hw2.ok] at hsh
  have H2 := Lib.hid (And.intro hw (And.intro hw2 hb9))
  have HSH := Lib.hid hsh
  clear hw hw2 hb2 hb9 hsh n0 n1 n2 n3
  go_wp2_with fail
  refine HSH.out.mono ?_
  rintro e W3 ⟨rfl, hb3⟩
  have hw3 := H2.out.1.kept hb3
  have hbz : Below w.heap.size w W3 := H2.out.2.2.trans (hb3.mono H2.out.2.2.size)
  obtain ⟨ra, rc, rfl⟩ := owns_slice hw3.rows
  obtain ⟨m, hm⟩ : ∃ m, m = lcp (places L) (places L2) := ⟨_, rfl⟩
  obtain ⟨len, hlen⟩ : ∃ len, len = L.length := ⟨_, rfl⟩
  have hml := lcp_le (places L) (places L2)
  rw [places_length, places_length, ← hm, ← hlen] at hml
  have hfew := hw3.few
  rw [← hlen] at hfew
  have hres : pr = (decide (0 < m) && decide (m = len)) := by
    rw [HP.out, withinT]
    rcases H2.out.1.path with ⟨h1, h2⟩ | ⟨p, h2, h3, h4⟩
    · rw [h2, hm, h1, places_nil, lcp_nil]; rfl
    · rw [h2]
      rcases H2.out.2.1.path with ⟨g1, g2⟩ | ⟨q, g2, g3, g4⟩
      · rw [g2, hm, g1, places_nil, lcp_nil']; simp
      · rw [g2, hm, h3, g3, lcp_cons, hlen, h4]
        simp only []
        rw [show decide (0 < lcp p q + 1) = true by simp, Bool.true_and]
        rw [decide_eq_decide]; omega
  have HE := Lib.hid (And.intro hres hbz)
  rw [← hm]
  rw [← hlen]
  clear hw3 hbz hb3 hres hm hlen hfew HSH HW HC
  by_cases h0 : 0 < m
  · have h0i : (0 : Int) < (m : Int) := by omega
    by_cases hq : m = len
    · have hqi : ((m : Int) == (len : Int)) = true := by simp; omega
      have HQ := Lib.hid (And.intro h0 hq)
      clear hq h0
      go_wp2_with fail
      go_ret
      exact ⟨congrArg (fun z => Ending.returned (.bool z)) (by rw [HE.out.1]; simp [HQ.out.1, HQ.out.2] <;> (have := HQ.out.1; have := HQ.out.2; omega)), HE.out.2⟩
    · have hqi : ((m : Int) == (len : Int)) = false := by simp; omega
      have HQ := Lib.hid (And.intro h0 hq)
      clear hq h0
      go_wp2_with fail
      go_ret
      exact ⟨congrArg (fun z => Ending.returned (.bool z)) (by rw [HE.out.1]; simp [HQ.out.2]), HE.out.2⟩
  · have h0i : ¬ (0 : Int) < (m : Int) := by omega
    have HQ := Lib.hid h0
    clear h0
    go_wp2_with fail
    go_ret
    exact ⟨congrArg (fun z => Ending.returned (.bool z)) (by rw [HE.out.1]; simp [HQ.out]), HE.out.2⟩
end Go.Proofs.Ythjniclhnfipdaa
namespace Go.Proofs.Ythjniclhnfipdaa
open Go.RowKit Go.Shelf
set_option linter.unusedVariables false
set_option linter.unusedSimpArgs false

structure AbI (w0 W : World) (zs : Array Value) (ids : List Int) (n k : Nat) (wr : World) : Prop where
  row : wr.ownsRow w0.heap.size 3 1 (.slice (some ⟨W.heap.size, 0, none⟩) n n) n ((ids.map intV).take k ++ zs.toList.drop k)
  below : Below W.heap.size W wr
  cell : wr.heap[W.heap.size + 1]? = some (.cells #[.slice (some ⟨W.heap.size, 0, none⟩) n n] 64 (0, 0))
theorem AbI.step {w0 W wr w6 : World} {zs : Array Value} {ids : List Int} {n k : Nat} {x : Int} {o : Obj} (h : AbI w0 W zs ids n k wr) (hz : zs.size = n) (hn : n = ids.length) (hx : ids[k]? = some x) (hb : Below (wr.alloc o).heap.size (wr.alloc o) w6) : AbI w0 W zs ids n (k + 1) (w6.setCell ⟨W.heap.size, k, none⟩ (.int .i64 x)) := by
  have hk := (List.getElem?_eq_some_iff.1 hx).1
  have hsz : wr.heap.size ≤ w6.heap.size := by have := hb.size; rw [World.size_alloc] at this; omega
  have hblk : ∀ y, y < wr.heap.size → w6.heap[y]? = wr.heap[y]? := fun y hy => (hb.block y (by rw [World.size_alloc]; omega)).trans (Below.heap_alloc wr o y hy)
  have h1 := owns_kept h.row (w' := w6) (fun g cur hc _ => hblk g (lt_of_some hc))
  have h2 := (World.ownsRow.stored h1 k (.int .i64 x)).1
  have e : ((ids.map intV).take k ++ zs.toList.drop k).set k (.int .i64 x) = (ids.map intV).take (k + 1) ++ zs.toList.drop (k + 1) := by
    have hl : ((ids.map intV).take k).length = k := by rw [List.length_take, List.length_map]; omega
    rw [List.set_append_right _ _ (by omega), hl, Nat.sub_self]
    have hz2 : k < zs.toList.length := by rw [Array.length_toList]; omega
    rw [← List.getElem_cons_drop hz2, List.set_cons_zero, List.take_add_one]
    have h3 : (ids.map intV)[k]? = some (.int .i64 x) := by rw [List.getElem?_map, hx]; rfl
    rw [h3]; simp
  rw [e] at h2
  have hb6 : Below W.heap.size W w6 := h.below.trans ⟨hb.os, hb.tape, hb.output, hsz, fun y hy => hblk y (by have := h.below.size; omega)⟩
  refine ⟨h2, hb6.setCell (p := ⟨W.heap.size, k, none⟩) (Nat.le_refl _) _, ?_⟩
  rw [Below.heap_setCell _ _ _ _ (by simp), hblk _ (lt_of_heap h.cell)]
  exact h.cell
end Go.Proofs.Ythjniclhnfipdaa
namespace Go.Proofs.Ythjniclhnfipdaa
open Go.RowKit Go.Shelf
set_option linter.unusedVariables false
set_option linter.unusedSimpArgs false

def idsF (f : Fo) : List Int := (spF 1 f).map fun x => x.2.1.1
theorem idsF_d : ∀ (d : Nat) (f : Fo), (spF d f).map (fun x => x.2.1.1) = idsF f
  | _, .nil => rfl
  | d, .node _ _ k l r => by
    simp only [idsF, spF, List.map_cons, List.map_append]
    rw [idsF_d (d + 1) l, idsF_d d r, idsF_d (1 + 1) l]
    rfl
theorem idsF_node (b o : Nat) (k : Int × Int × ByteArray) (l r : Fo) : idsF (.node b o k l r) = k.1 :: (idsF l ++ idsF r) := by
  simp only [idsF, spF, List.map_cons, List.map_append]
  rw [idsF_d (1 + 1) l]
  rfl
def DistT (t : Tr) : Prop := (idsF (rootF t)).Nodup
theorem distT_kids {t : Tr} (h : DistT t) : t.id ∉ idsF t.kids ∧ (idsF t.kids).Nodup := by
  rw [DistT, rootF, idsF_node] at h
  have e : idsF Deep.BT.nil = [] := rfl
  rw [e, List.append_nil] at h
  exact ⟨(List.nodup_cons.1 h).1, (List.nodup_cons.1 h).2⟩
theorem fpi_none_mem : ∀ (id : Int) (f : Fo) (j : Nat), id ∉ idsF f → fpi id j f = none
  | _, .nil, _, _ => rfl
  | id, .node b o k l r, j, h => by
    rw [idsF_node] at h
    simp only [List.mem_cons, List.mem_append, not_or] at h
    rw [fpi, if_neg (fun e => h.1 e.symm), fpi_none_mem id l 0 h.2.1]
    exact fpi_none_mem id r (j + 1) h.2.2
/-- What stands at a path of a row's node bears an id of the row. -/
theorem at_mem : ∀ (f : Fo) (k : Nat) (r : List Nat) (u v : Tr), kidF f k = some u → atT u r = some v → v.id ∈ idsF f
  | .nil, k, r, u, v, h, _ => by rw [kidF_ge (by simp [foLen])] at h; cases h
  | .node b o key l q, 0, r, u, v, h, hv => by
    rw [idsF_node]
    have hu : u = ⟨key.1, key.2.1, key.2.2, l⟩ := by simp only [kidF, foDrop, headT] at h; cases h; rfl
    subst hu
    cases r with
    | nil => cases hv; simp
    | cons i r =>
      simp only [atT] at hv
      cases hk : kidF l i with
      | none => rw [hk] at hv; cases hv
      | some w =>
        rw [hk] at hv
        have := at_mem l i r w v hk hv
        simp [this]
  | .node b o key l q, k + 1, r, u, v, h, hv => by
    rw [idsF_node]
    have h2 : kidF q k = some u := by simpa [kidF, foDrop] using h
    have := at_mem q k r u v h2 hv
    simp [this]
theorem fpi_uniq : ∀ (f : Fo) (j k : Nat) (r : List Nat) (u v : Tr), (idsF f).Nodup → kidF f k = some u → atT u r = some v → fpi v.id j f = some ((j + k) :: r)
  | .nil, _, k, r, u, v, _, h, _ => by rw [kidF_ge (by simp [foLen])] at h; cases h
  | .node b o key l q, j, 0, r, u, v, hd, h, hv => by
    rw [idsF_node, List.nodup_cons, List.nodup_append] at hd
    have hu : u = ⟨key.1, key.2.1, key.2.2, l⟩ := by simp only [kidF, foDrop, headT] at h; cases h; rfl
    subst hu
    cases r with
    | nil => cases hv; simp [fpi]
    | cons i r =>
      simp only [atT] at hv
      cases hk : kidF l i with
      | none => rw [hk] at hv; cases hv
      | some w =>
        rw [hk] at hv
        simp only at hv
        have hm := at_mem l i r w v hk hv
        have h1 := fpi_uniq l 0 i r w v hd.2.1 hk hv
        rw [fpi, if_neg (fun e => hd.1 (by rw [e]; simp [hm])), h1]
        simp
  | .node b o key l q, j, k + 1, r, u, v, hd, h, hv => by
    rw [idsF_node, List.nodup_cons, List.nodup_append] at hd
    have h2 : kidF q k = some u := by simpa [kidF, foDrop] using h
    have hm := at_mem q k r u v h2 hv
    have h1 := fpi_uniq q (j + 1) k r u v hd.2.2.1 h2 hv
    have hnl : v.id ∉ idsF l := fun e => hd.2.2.2 _ e _ hm rfl
    rw [fpi, if_neg (fun e => hd.1 (by rw [e]; simp [hm])), fpi_none_mem _ l 0 hnl, h1]
    rw [show j + 1 + k = j + (k + 1) by omega]
/-- The path of an id is the path of the node that bears it. -/
theorem pathT_uniq {t v : Tr} {r : List Nat} (hd : DistT t) (hv : atT t r = some v) : pathT v.id t = some r := by
  obtain ⟨h1, h2⟩ := distT_kids hd
  cases r with
  | nil => cases hv; simp [pathT]
  | cons i r =>
    simp only [atT] at hv
    cases hk : kidF t.kids i with
    | none => rw [hk] at hv; cases hv
    | some u =>
      rw [hk] at hv
      simp only at hv
      have hm := at_mem t.kids i r u v hk hv
      rw [pathT, if_neg (fun e => h1 (by rw [e]; exact hm)), fpi_uniq t.kids 0 i r u v h2 hk hv, Nat.zero_add]
end Go.Proofs.Ythjniclhnfipdaa
namespace Go.Proofs.Ythjniclhnfipdaa
open Go.RowKit
set_option linter.unusedVariables false

theorem info_wideV {P : Program} {e : TypeId} {size bytes : Nat} (h : (P.info? e).map (fun i => (i.size, i.bytes, i.zero.map (fun z => z.cells.size))) = some (size, bytes, some size)) :
    ∃ i z, P.info? e = some i ∧ i.zero = some z ∧ i.size = size ∧ i.bytes = bytes ∧ z.cells.size = size := by
  rw [Option.map_eq_some_iff] at h
  obtain ⟨i, hi, he⟩ := h
  simp only [Prod.mk.injEq, Option.map_eq_some_iff] at he
  obtain ⟨h1, h2, z, hz, h3⟩ := he
  exact ⟨i, z, hi, hz, h1, h2, h3⟩
theorem takeM_more {α : Type} (M : Nat) (A B : List α) : ((A.take M) ++ B).take M = (A ++ B).take M := by
  rw [List.take_append, List.take_append, List.take_take, Nat.min_self, List.length_take]
  congr 2
  omega
def trOf (x : Sp) : Tr := ⟨x.2.1.1, x.2.1.2.1, x.2.1.2.2, x.2.2⟩
end Go.Proofs.Ythjniclhnfipdaa
namespace Go.Proofs.Ythjniclhnfipdaa
open Go.RowKit

attribute [local go_sem ↓] loadT wpLoadT storeT wpStoreT allocT wpAllocT buildT wpBuildT
attribute [local go_sem] headB_ptr isHead_ptr aggC_agg isT_vec vec_size freeRow_alloc setRow_alloc_at blk_alloc_new

/-- The blocks that the call keeps: its slot, where stretches may begin, its result, what fits; and where they end. -/
structure StrB (w : World) (O : Nat) (c : Array Value) (T own f : Nat → Bool) (wr : World) : Prop where
  slot : wr.heap[w.heap.size]? = some (.cells c 109 (0, 0))
  from_ : wr.heap[w.heap.size + 1]? = some (.cells (vec T) 157 (0, 0))
  res : wr.heap[w.heap.size + 2]? = some (.cells (vec noF) 157 (0, 0))
  own : wr.heap[O]? = some (.cells (vec own) 157 (0, 0))
  ends : wr.heap[O + 1]? = some (.cells (vec f) 157 (0, 0))
  lt : w.heap.size + 2 < O
  below : Below w.heap.size w wr
theorem StrB.set {w wr : World} {O : Nat} {c : Array Value} {T own f : Nat → Bool} (h : StrB w O c T own f wr) (i : Nat) : StrB w O c T own (fun j => if j = i then true else f j) (wr.setCell ⟨O + 1, i, none⟩ (.bool true)) := by
  have hlt := h.lt
  exact ⟨by rw [Below.heap_setCell _ _ _ _ (by show w.heap.size ≠ O + 1; omega)]; exact h.slot, by rw [Below.heap_setCell _ _ _ _ (by show w.heap.size + 1 ≠ O + 1; omega)]; exact h.from_,
    by rw [Below.heap_setCell _ _ _ _ (by show w.heap.size + 2 ≠ O + 1; omega)]; exact h.res, by rw [Below.heap_setCell _ _ _ _ (by show O ≠ O + 1; omega)]; exact h.own,
    by rw [heap_setCell_same _ (O + 1) i _ _ _ h.ends, vec_set], hlt, h.below.setCell (by show w.heap.size ≤ O + 1; omega) _⟩
end Go.Proofs.Ythjniclhnfipdaa
namespace Go.Proofs.Ythjniclhnfipdaa
open Go.RowKit Go.Shelf
open Go.Maps
attribute [local go_sem] Oper.semAt_some
set_option linter.unusedVariables false
set_option linter.unusedSimpArgs false

/-- A set of ids. -/
def OwnsS (w : World) (b n : Nat) (ids : List Int) : Prop := w.ownsMap Try.prog 3 (unitElem (H := Value)) b n (setOf (.agg []) (ids.map (Lit.int .i64 ·)))
theorem OwnsS.at {w w' : World} {b n : Nat} {ids : List Int} (h : OwnsS w b n ids) (e : w'.heap[b]? = w.heap[b]?) : OwnsS w' b n ids := by
  obtain ⟨es, clock, hb, h⟩ := h
  exact ⟨es, clock, e.trans hb, h⟩
theorem law7 : Keyed Try.prog 3 := int_keyed Try.underlying3
theorem zeroU (w : World) : (zeroValue 164).run Try.prog w = .ok (.agg #[]) w := by kernel_rfl
theorem sameKey_int {a b : Int} : (Lit.int .i64 a).sameKey (.int .i64 b) = (a == b) := by
  by_cases h : a = b
  · subst h; simp [Lit.sameKey]
  · rw [sameKey_ne (by simpa using h)]; simp [h]
theorem has_ids (ids : List Int) (i : Int) : Maps.has (setOf (.agg [] : DataW Value) (ids.map (Lit.int .i64 ·))) (.int .i64 i) = ids.any (· == i) := by
  rw [has_setOf]
  · rw [List.any_map]; congr 1; funext a; exact sameKey_int
  · intro x hx
    obtain ⟨a, _, rfl⟩ := List.mem_map.1 hx
    trivial
end Go.Proofs.Ythjniclhnfipdaa
namespace Go.Proofs.Ythjniclhnfipdaa
open Go.RowKit Go.Shelf
open Go.Maps
attribute [local go_sem] Oper.semAt_some
set_option linter.unusedVariables false
set_option linter.unusedSimpArgs false

/-- What a host keeps of a tree's numbers and texts. -/
def okF (l : List Sp) : Prop := ∀ x ∈ l, (x.2.1.2.2.size : Int) ≤ 9223372036854775807 ∧ (Lit.int .i64 x.2.1.1).wf = true
section
variable {P : Program} {H : Type} {n : Nat}
end
end Go.Proofs.Ythjniclhnfipdaa
