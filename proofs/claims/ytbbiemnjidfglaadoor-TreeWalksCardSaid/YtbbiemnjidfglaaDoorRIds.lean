/-
  The document's own Ids of a tree. No condition but that there are not too many nodes.
-/
import Derived.Test.YtbbiemnjidfglaaDoorRWalkN
import Derived.OwnWalk
namespace Go.Proofs.YtbbiemnjidfglaaDoor
open Go.RowKit
set_option linter.unusedVariables false
set_option linter.unusedSimpArgs false

theorem Tryd.infoInt : (Tryd.prog.info? 3).map (fun i => (i.zero, i.size, i.bytes)) = some (some (.int .i64 0), 1, 8) := by kernel_rfl
def idsL (l : List Sp) : List Int := l.map (fun x => x.2.1.1)
def intV (n : Int) : Value := .int .i64 n
/-- A row of numbers of a call's own. -/
def IntsC (w : World) (l : List Int) (e : Ending) (w' : World) : Prop := ∃ v, e = .returned v ∧ w'.ownsRow w.heap.size 3 1 v l.length (l.map intV) ∧ Below w.heap.size w w'
def RIdsInv (w2 : World) (l : List Int) (v i : Value) (wr : World) : Prop := ∃ k : Nat, k ≤ l.length ∧ i = .int .i64 (k : Int) ∧ wr.ownsRow w2.heap.size 3 1 v k ((l.take k).map intV) ∧ Below w2.heap.size w2 wr
set_option maxRecDepth 100000 in
set_option maxHeartbeats 2000000 in
theorem rids_any (w : World) (S : Nat → Prop) (v : Value) (t : Tr) (hsz : foSize t.kids + 1 ≤ 1000000) (hS : ∀ k, S k → k < w.heap.size) (hv : TrAt w S v t) :
    Calls Tryd.prog 13 #[v] w (IntsC w (idsL (spF 1 (rootF t)))) := by
  obtain ⟨ka, cap, rfl, hcp, hk⟩ := hv
  have hb : Below w.heap.size w (w.alloc (.cells #[.int .i64 t.id, .int .i64 t.kind, .string t.text, .slice ka (foLen t.kids) cap] 24)) := (Below.refl _ _).alloc (Nat.le_refl _) _
  have hc := walkN_any 1048576 (by omega) (w.alloc (.cells #[.int .i64 t.id, .int .i64 t.kind, .string t.text, .slice ka (foLen t.kids) cap] 24)) S _ t (by omega) hsz (fun k hk => Nat.lt_of_lt_of_le (hS k hk) hb.size) ⟨ka, cap, rfl, hcp, hk.below hb hS⟩
  have HC := Lib.hid (And.intro hc hb)
  have hln : (idsL (spF 1 (rootF t))).length = foSize t.kids + 1 := by rw [idsL, List.length_map, spF_length, rootF_size]
  have HLN := Lib.hid hln
  have HSZ := Lib.hid hsz
  clear hc hb hk hS hcp hsz hln
  obtain ⟨i0, hi, hz0, hz1, hz2⟩ := info_parts Tryd.infoInt
  have HI := Lib.hid (And.intro hi (And.intro hz0 (And.intro hz1 hz2)))
  clear hi hz0 hz1 hz2
  obtain ⟨len, hl⟩ : ∃ len, len = foLen t.kids := ⟨_, rfl⟩
  rw [← hl] at HC
  rw [← hl]
  clear hl
  go_enter Tryd.func13, Tryd.ntmps13
  go_wp2_with fail
  refine HC.out.1.mono ?_
  rintro e w2 ⟨a, cap', rfl, hsp, hb2⟩
  have HB := Lib.hid (show Below w.heap.size w w2 from HC.out.2.trans (hb2.mono HC.out.2.size))
  obtain ⟨hTl, xs, ho, hx⟩ := hsp
  have HO := Lib.hid (And.intro ho (And.intro hx hTl))
  obtain ⟨q, hq⟩ : ∃ q, q = foSize t.kids + 1 := ⟨_, rfl⟩
  rw [← hq]
  have HQ := Lib.hid hq
  have hq5 : q ≤ 1000000 := by rw [hq]; exact HSZ.out
  clear hb2 ho hx hTl HC hq
  go_wp2_with fail
  go_loopw [3, 5] (fun v i wr => RIdsInv w2 (idsL (spF 1 (rootF t))) v i wr) (fun _ i _ => q - (intOf i).toNat)
  case atStart => exact ⟨0, Nat.zero_le _, rfl, World.ownsRow_nil _ _ _ _, Below.refl _ _⟩
  case round =>
    obtain ⟨k, hk, rfl, hown, hbr⟩ := hrel
    have HR := Lib.hid (And.intro hown hbr)
    clear hown hbr
    by_cases hlt : k < q
    · obtain ⟨x, hx⟩ : ∃ x, (spF 1 (rootF t))[k]? = some x := ⟨_, List.getElem?_eq_getElem (by rw [spF_length, rootF_size, ← HQ.out]; exact hlt)⟩
      have hsx := (HO.out.2.1 k x hx).1
      have ho := HO.out.1
      have hgg : ∃ g, a = some ⟨g, 0, none⟩ := by
        rcases ho.2 with ⟨hv, h0⟩ | ⟨g, cap2, cur, hv, _⟩
        · omega
        · cases hv; exact ⟨g, rfl⟩
      obtain ⟨g, rfl⟩ := hgg
      have c0 : w2.cell? ⟨g, k * 5, none⟩ = some (.int .i64 x.2.1.1) := owns_cell ho rfl _ _ hsx
      have c1 : wr.cell? ⟨g, k * 5, none⟩ = some (.int .i64 x.2.1.1) := (World.cell?_of_block (HR.out.2.block g (World.block_lt_of_cell? _ _ c0))).trans c0
      have hkl : (k : Int) < (q : Int) := by omega
      have HX := Lib.hid hx
      have HLT := Lib.hid hlt
      obtain ⟨id, hid0⟩ : ∃ id, id = x.2.1.1 := ⟨_, rfl⟩
      rw [← hid0] at c1
      have HID := Lib.hid hid0
      have hk5 : k ≤ 1000000 := by omega
      clear ho hsx c0 hx hlt hid0 hk
      go_wp2_with (at_builtin; refine wpList_append_own _ rfl (.tmp 14) (.tmp 21) 31 rfl w2.heap.size 3 i0 (.int .i64 0) 1 8 Tryd.underlying31 HI.out.1 HI.out.2.1 HI.out.2.2.1 HI.out.2.2.2 rfl (by decide) _ k (((idsL (spF 1 (rootF t))).take k).map intV) rfl (HR.out.1.alloc _) ⟨wr.heap.size, 0, none⟩ 1 1 [.int .i64 id] rfl rfl (World.news_of_block (cs := #[.int .i64 id]) (heap_alloc_new wr _)) (by simp [Value.oneCell']) (by unfold maxLen; omega) (by omega) (by have := HR.out.2.size; simp; omega) ?_; intro v2 w4 hown hgrow _; have HE := Lib.hid (And.intro hown hgrow); clear hown hgrow)
      refine ⟨⟨k + 1, by have := HLT.out; have := HLN.out; have := HQ.out; omega, by go_num, ?_, ?_⟩, by have := HLT.out; simp [intOf]; omega⟩
      · have h1 := HE.out.1
        have e1 : (idsL (spF 1 (rootF t)))[k]? = some id := by rw [idsL, List.getElem?_map, HX.out, HID.out]; rfl
        have e2 : ((idsL (spF 1 (rootF t))).take (k + 1)).map intV = ((idsL (spF 1 (rootF t))).take k).map intV ++ [.int .i64 id] := by rw [List.take_add_one, e1]; simp [intV]
        rw [e2]; exact h1
      · exact (HR.out.2.alloc HR.out.2.size _).grown HE.out.2 (by have := HR.out.2.size; simp; omega) (fun y hy => (owns_bounds HR.out.1 hy).1)
    · have hkq : k = q := by have := HLN.out; have := HQ.out; omega
      have HKQ := Lib.hid hkq
      have hkl : ¬ (k : Int) < (q : Int) := by omega
      clear hkq hk
      go_wp2_with fail
      go_ret
      have h1 := HR.out.1
      rw [List.take_of_length_le (by have := HLN.out; have := HQ.out; have := HKQ.out; omega)] at h1
      refine ⟨_, rfl, ?_, HB.out.trans (HR.out.2.mono HB.out.size)⟩
      have e3 : (idsL (spF 1 (rootF t))).length = k := by have := HLN.out; have := HQ.out; have := HKQ.out; omega
      rw [e3]
      exact owns_mono h1 HB.out.size
end Go.Proofs.YtbbiemnjidfglaaDoor
