/-
  The document's Kinds: a node's kids' kinds, in order. No condition but that there are not too many kids.
-/
import Derived.Test.YtmfpilacmafglaaVNode
namespace Go.Proofs.Ytmfpilacmafglaa
open Go.RowKit Go.Shelf
attribute [local go_sem] Oper.semAt_some
set_option linter.unusedVariables false
set_option linter.unusedSimpArgs false

def RKiR (w : World) (nb : Nat) (c1 : Array Value) (f : Fo) (v : Value) (k : Nat) (wr : World) : Prop :=
  wr.ownsRow (w.heap.size + 1) 3 1 v k (((kindsF f).take k).map (Value.int .i64)) ∧ wr.heap[nb]? = some (.cells c1 24 (0, 0)) ∧ Below w.heap.size w wr
theorem take_kind {f : Fo} {k : Nat} {x : Int} (h : (kindsF f)[k]? = some x) : ((kindsF f).take (k + 1)).map (Value.int .i64) = ((kindsF f).take k).map (Value.int .i64) ++ [.int .i64 x] := by
  rw [List.take_add_one, h]; simp
set_option maxRecDepth 100000 in
set_option maxHeartbeats 1000000 in
theorem rkinds_any (w : World) (S : Nat → Prop) (nv : Value) (t : Tr) (hS : ∀ x, S x → x < w.heap.size) (ht : TrAt w S nv t) (hsz : foLen t.kids ≤ 1000000) : Calls Try.prog 47 #[nv] w (KindsC w t.kids) := by
  obtain ⟨ka, cap, rfl, hcap, hk⟩ := ht
  obtain ⟨n, hn⟩ : ∃ n, n = foLen t.kids := ⟨_, rfl⟩
  have hn6 : n ≤ 1000000 := by omega
  rw [← hn]
  obtain ⟨W0, hW0⟩ : ∃ W0, W0 = w.alloc (.cells #[.int .i64 t.id, .int .i64 t.kind, .string t.text, .slice ka n cap] 24) := ⟨_, rfl⟩
  have hs0 : W0.heap.size = w.heap.size + 1 := by rw [hW0]; simp
  have hbx : W0.heap[w.heap.size]? = some (.cells #[.int .i64 t.id, .int .i64 t.kind, .string t.text, .slice ka n cap] 24 (0, 0)) := by rw [hW0]; exact heap_alloc_new w _
  have hst : RKiR w w.heap.size #[.int .i64 t.id, .int .i64 t.kind, .string t.text, .slice ka n cap] t.kids (.slice none 0 0) 0 W0 :=
    ⟨World.ownsRow_nil _ _ _ _, hbx, by rw [hW0]; exact (Below.refl _ w).alloc (Nat.le_refl _) _⟩
  obtain ⟨i0, hi, hz0, hz1, hz2⟩ := info_parts Try.infoInt7
  have HI := Lib.hid (And.intro hi (And.intro hz0 (And.intro hz1 hz2)))
  have H := Lib.hid (And.intro hS (And.intro hcap (And.intro hk (And.intro hn (And.intro hst hW0)))))
  clear hS hcap hk hn hst hW0 hs0 hbx hsz hi hz0 hz1 hz2
  go_enter Try.func47, Try.ntmps47
  go_wp2_with fail
  rw [← H.out.2.2.2.2.2]
  go_loopw [3, 4] (fun v i wr => ∃ k : Nat, k ≤ n ∧ i = .int .i64 (k : Int) ∧ Hid (RKiR w w.heap.size #[.int .i64 t.id, .int .i64 t.kind, .string t.text, .slice ka n cap] t.kids v k wr)) (fun _ i _ => n - (intOf i).toNat)
  case atStart => exact ⟨0, Nat.zero_le _, rfl, Lib.hid H.out.2.2.2.2.1⟩
  case round =>
    obtain ⟨k, hk, rfl, hr⟩ := hrel
    by_cases hlt : k < n
    · obtain ⟨hown, hbx, hbl⟩ := hr.out
      obtain ⟨ra, rc, rfl⟩ := owns_slice hown
      have p3 : wr.cell? ⟨w.heap.size, 3, none⟩ = some (.slice ka n cap) := by rw [cell_of_row wr _ 3 _ _ _ hbx]; rfl
      have hk1 : FoAt wr S t.kids ka := H.out.2.2.1.kept fun x hx => ⟨hx, hbl.block x (H.out.1 x hx)⟩
      obtain ⟨b0, o0, ⟨ki, kk, kt⟩, l', r, hd1', b, off, a1, n1, rfl, hSb, c0, c1, c2, c3, hc1, hl1⟩ := hk1.at k (by rw [← H.out.2.2.2.1]; exact hlt)
      have hkk := kindsF_at k t.kids _ _ _ _ _ hd1'
      have HKK := Lib.hid hkk
      have HO := Lib.hid (And.intro hown (And.intro hbx hbl))
      have hkl : (k : Int) < (n : Int) := by omega
      have HLT := Lib.hid hlt
      have hsw : w.heap.size + 1 ≤ wr.heap.size := by have := lt_of_heap hbx; omega
      clear hkk hk1 hd1' hown hbx hbl hSb hc1 hl1 hlt
      go_wp2_with (at_builtin; refine wpList_append_own _ rfl (.tmp 12) (.tmp 19) _ rfl (w.heap.size + 1) 3 i0 (.int .i64 0) 1 8 Try.underlying64 HI.out.1 HI.out.2.1 HI.out.2.2.1 HI.out.2.2.2 rfl (by omega) (.slice ra k rc) k _ rfl (HO.out.1.alloc _) ⟨wr.heap.size, 0, none⟩ 1 1 [.int .i64 kk] rfl rfl (World.news_of_block (cs := #[.int .i64 kk]) (heap_alloc_new wr _)) (by simp [Value.oneCell']) (by have := HLT.out; unfold maxLen; omega) (by have := HLT.out; omega) (by simp; omega) ?_; intro v8 w8 hown hgrow _; have HF := Lib.hid (And.intro hown hgrow); clear hown hgrow)
      refine ⟨⟨k + 1, HLT.out, by go_num, Lib.hid ⟨?_, ?_, ?_⟩⟩, by have := HLT.out; simp [intOf]; omega⟩
      · rw [take_kind HKK.out]; exact HF.out.1
      · have hob : ∀ g, Value.ownBlock (.slice ra k rc) = some g → w.heap.size + 1 ≤ g := fun g hg => (owns_bounds HO.out.1 hg).1
        rw [HF.out.2.block _ (by simp; omega) (fun e => by have := hob _ e.symm; omega), Below.heap_alloc _ _ _ (by omega)]
        exact HO.out.2.1
      · have hob : ∀ g, Value.ownBlock (.slice ra k rc) = some g → w.heap.size + 1 ≤ g := fun g hg => (owns_bounds HO.out.1 hg).1
        have hg := HF.out.2
        have hb := HO.out.2.2
        refine ⟨hg.os.trans hb.os, hg.tape.trans hb.tape, hg.output.trans hb.output, by have := hg.size; simp at this; have := hb.size; omega, fun y hy => ?_⟩
        rw [hg.block y (by simp; omega) (fun e => by have := hob _ e.symm; omega), Below.heap_alloc _ _ _ (by omega)]
        exact hb.block y hy
    · have hkn : k = n := by omega
      subst hkn
      have hkl : ¬ (k : Int) < (k : Int) := by omega
      obtain ⟨hown, hbx, hbl⟩ := hr.out
      have p3 : wr.cell? ⟨w.heap.size, 3, none⟩ = some (.slice ka k cap) := by rw [cell_of_row wr _ 3 _ _ _ hbx]; rfl
      obtain ⟨a, cp, rfl⟩ := owns_slice hown
      have HO := Lib.hid (And.intro hown hbl)
      clear hown hbx hbl hlt hr
      go_wp2_with fail
      go_ret
      have hln : (kindsF t.kids).length = k := by rw [kindsF_length, H.out.2.2.2.1]
      refine ⟨a, cp, by rw [hln]; rfl, fun h0 => ?_, HO.out.2⟩
      have hown := HO.out.1
      rw [List.take_of_length_le (by omega)] at hown
      have hgg : ∃ g, a = some ⟨g, 0, none⟩ := by
        rcases hown.2 with ⟨hv, h1⟩ | ⟨g, cap2, cur, hv, _⟩
        · omega
        · cases hv; exact ⟨g, rfl⟩
      obtain ⟨g, rfl⟩ := hgg
      exact ⟨g, 0, rfl, (owns_bounds hown rfl).2, fun j x hx => by rw [Nat.zero_add]; exact owns_cell hown rfl j _ (by rw [List.getElem?_map, hx]; rfl)⟩
end Go.Proofs.Ytmfpilacmafglaa
