/-
  The document's own net: its call Look. No condition but that it lies where it is said to lie.
-/
import Derived.Test.YtklpafognbodhaaRNetSendYes
import Derived.Test.YtklpafognbodhaaCopied
namespace Go.Proofs.Ytklpafognbodhaa
open Go.RowKit

def RLookC (w : World) (p : Item) (e : Ending) (w' : World) : Prop := ∃ cs : List Value, e = .returned (.tuple #[.agg cs.toArray, .bool p.2, .int .i64 0]) ∧ cs.length = 16 ∧ (∃ sa sc ka cap, cs = msgCells p.1 sa sc ka cap ∧ MsgIn w' (Fresh w w') p.1 sa ka) ∧ Below w.heap.size w w'
attribute [local go_sem ↓] loadM wpLoadM storeM wpStoreM
attribute [local go_sem] putAt_ptr
set_option maxRecDepth 100000 in
set_option maxHeartbeats 1000000 in
theorem rlook_no (w : World) (S : Nat → Prop) (rb : Nat) (l : List Item) (k : Int) (h : RNetAt w S rb l) (hk : k < 0 ∨ (l.length : Int) ≤ k) :
    Calls Try.prog 23 #[.pointer (some ⟨rb, 0, none⟩), .int .i64 k] w fun e w' => e = .returned (.tuple #[.agg #[.int .i8 0, .int .i64 0, .int .i64 0, .int .i64 0, .int .i64 0, .int .i64 0, .int .i64 0, .int .i64 0, .int .i64 0, .int .i64 0, .int .i64 0, .slice none 0 0, .int .i64 0, .int .i64 0, .string ⟨#[]⟩, .slice none 0 0], .bool false, .int .i64 4]) ∧ Below w.heap.size w w' := by
  obtain ⟨_, _, lv, hv, xs, hb, ho, _⟩ := h
  obtain ⟨la, lc, rfl⟩ := owns_slice ho
  obtain ⟨len, hlen⟩ : ∃ len, len = l.length := ⟨_, rfl⟩
  rw [← hlen] at hb hk
  have hlt := lt_of_some hb
  have hb0 : Below w.heap.size w (w.alloc (.cells #[.int .i8 0, .int .i64 0, .int .i64 0, .int .i64 0, .int .i64 0, .int .i64 0, .int .i64 0, .int .i64 0, .int .i64 0, .int .i64 0, .int .i64 0, .slice none 0 0, .int .i64 0, .int .i64 0, .string ⟨#[]⟩, .slice none 0 0] 40)) := (Below.refl _ _).alloc (Nat.le_refl _) _
  have c0 : (w.alloc (.cells #[.int .i8 0, .int .i64 0, .int .i64 0, .int .i64 0, .int .i64 0, .int .i64 0, .int .i64 0, .int .i64 0, .int .i64 0, .int .i64 0, .int .i64 0, .slice none 0 0, .int .i64 0, .int .i64 0, .string ⟨#[]⟩, .slice none 0 0] 40)).cell? ⟨rb, 0, none⟩ = some (.slice la len lc) := (World.cell?_of_block (hb0.block rb hlt)).trans (by rw [cell_of_row w _ 0 _ _ _ hb]; rfl)
  have hst := store_msg (cs := (#[.int .i8 0, .int .i64 0, .int .i64 0, .int .i64 0, .int .i64 0, .int .i64 0, .int .i64 0, .int .i64 0, .int .i64 0, .int .i64 0, .int .i64 0, .slice none 0 0, .int .i64 0, .int .i64 0, .string ⟨#[]⟩, .slice none 0 0] : Array Value).toList) (heap_alloc_new w (.cells #[.int .i8 0, .int .i64 0, .int .i64 0, .int .i64 0, .int .i64 0, .int .i64 0, .int .i64 0, .int .i64 0, .int .i64 0, .int .i64 0, .int .i64 0, .slice none 0 0, .int .i64 0, .int .i64 0, .string ⟨#[]⟩, .slice none 0 0] 40)) rfl rfl
  have HE := Lib.hid (And.intro hst.1 (hb0.trans (hst.2.2.2 _ (Nat.le_refl _))))
  have f1 : freeAt (w.alloc (.cells #[.int .i8 0, .int .i64 0, .int .i64 0, .int .i64 0, .int .i64 0, .int .i64 0, .int .i64 0, .int .i64 0, .int .i64 0, .int .i64 0, .int .i64 0, .slice none 0 0, .int .i64 0, .int .i64 0, .string ⟨#[]⟩, .slice none 0 0] 40)) (.pointer (some ⟨w.heap.size, 0, none⟩)) = true := freeAt_of (heap_alloc_new w _) rfl
  have f2 : isMsg (.agg #[.int .i8 0, .int .i64 0, .int .i64 0, .int .i64 0, .int .i64 0, .int .i64 0, .int .i64 0, .int .i64 0, .int .i64 0, .int .i64 0, .int .i64 0, .slice none 0 0, .int .i64 0, .int .i64 0, .string ⟨#[]⟩, .slice none 0 0]) = true := isMsg_agg (cs := (#[.int .i8 0, .int .i64 0, .int .i64 0, .int .i64 0, .int .i64 0, .int .i64 0, .int .i64 0, .int .i64 0, .int .i64 0, .int .i64 0, .int .i64 0, .slice none 0 0, .int .i64 0, .int .i64 0, .string ⟨#[]⟩, .slice none 0 0] : Array Value).toList) rfl (by simp [Value.oneCell'])
  clear hb ho hlen hst hb0 hlt
  by_cases h0 : k < 0
  · clear hk
    go_enter Try.func23, Try.ntmps23
    go_wp2_with fail
    have hE := HE.out
    generalize World.setCells _ _ _ _ = W5 at hE ⊢
    refine bodyPost_ret (results_cell_row3 rfl _ _ w.heap.size 40 _ (0, 0) _ rfl hE.1 Try.underlying40 rfl (by kernel_rfl)) rfl ?_
    exact ⟨rfl, hE.2⟩
  · have h1 : (len : Int) ≤ k := by omega
    clear hk
    go_enter Try.func23, Try.ntmps23
    go_wp2_with fail
    have hE := HE.out
    generalize World.setCells _ _ _ _ = W5 at hE ⊢
    refine bodyPost_ret (results_cell_row3 rfl _ _ w.heap.size 40 _ (0, 0) _ rfl hE.1 Try.underlying40 rfl (by kernel_rfl)) rfl ?_
    exact ⟨rfl, hE.2⟩

set_option maxRecDepth 100000 in
set_option maxHeartbeats 4000000 in
theorem rlook_yes (w : World) (S : Nat → Prop) (rb : Nat) (l : List Item) (k : Nat) (p : Item) (h : RNetAt w S rb l) (hk : l[k]? = some p) (hm : p.1.small) (hlen : l.length ≤ 1000000) :
    Calls Try.prog 23 #[.pointer (some ⟨rb, 0, none⟩), .int .i64 k] w (RLookC w p) := by
  obtain ⟨m, mk⟩ := p
  obtain ⟨h0, h1, lv, hv, xs, h2, h3, h4, h5, h6, h7⟩ := h
  have hkl := (List.getElem?_eq_some_iff.1 hk).1
  obtain ⟨g, lc, rfl, _⟩ := h3.form (by omega)
  obtain ⟨gh, hc, rfl, _⟩ := h4.form (by omega)
  obtain ⟨sa, sc, ka, cap, hcells, hin⟩ := MsgRow.at k m h7 (by rw [List.getElem?_map, hk]; rfl)
  have hgl := (owns_bounds h3 (g := g) rfl).2
  have hghl := (owns_bounds h4 (g := gh) rfl).2
  have hrl : rb < w.heap.size := lt_of_some h2
  obtain ⟨ds, hds⟩ : ∃ ds, ds = msgCells m sa sc ka cap := ⟨_, rfl⟩
  have hmt : MsgThere w g (k * 16) ds := by
    obtain ⟨cur, hcur⟩ : ∃ cur, w.heap[g]? = some (.cells cur 40 (0, 0)) := by
      rcases h3.2 with ⟨hv, _⟩ | ⟨g', cap', cur, hv, _, hh, _⟩
      · cases hv
      · cases hv; exact ⟨cur, hh⟩
    refine there_msg hcur (by rw [hds]; rfl) fun j u hj => ?_
    have h8 := owns_cell h3 rfl _ u (hcells j u (by rw [← hds]; exact hj))
    rw [cell_of_row w _ _ _ _ _ hcur] at h8
    exact h8
  obtain ⟨W, hW⟩ : ∃ W, W = w.alloc (.cells #[.int .i8 0, .int .i64 0, .int .i64 0, .int .i64 0, .int .i64 0, .int .i64 0, .int .i64 0, .int .i64 0, .int .i64 0, .int .i64 0, .int .i64 0, .slice none 0 0, .int .i64 0, .int .i64 0, .string ⟨#[]⟩, .slice none 0 0] 40) := ⟨_, rfl⟩
  have hbW : Below w.heap.size w W := by rw [hW]; exact (Below.refl _ _).alloc (Nat.le_refl _) _
  have hnW : W.heap[w.heap.size]? = some (.cells #[.int .i8 0, .int .i64 0, .int .i64 0, .int .i64 0, .int .i64 0, .int .i64 0, .int .i64 0, .int .i64 0, .int .i64 0, .int .i64 0, .int .i64 0, .slice none 0 0, .int .i64 0, .int .i64 0, .string ⟨#[]⟩, .slice none 0 0] 40 (0, 0)) := by rw [hW]; exact heap_alloc_new w _
  have hsW : W.heap.size = w.heap.size + 1 := by rw [hW]; simp
  have a0 : w.cell? ⟨rb, 0, none⟩ = some (.slice (some ⟨g, 0, none⟩) l.length lc) := by rw [cell_of_row w _ 0 _ _ _ h2]; rfl
  have a1 : w.cell? ⟨rb, 1, none⟩ = some (.slice (some ⟨gh, 0, none⟩) l.length hc) := by rw [cell_of_row w _ 1 _ _ _ h2]; rfl
  have a2 : w.cell? ⟨gh, k, none⟩ = some (.bool mk) := by rw [h4.cellAt k (by omega)]; simp [marks, hk]
  obtain ⟨len, hl⟩ : ∃ len, len = l.length := ⟨_, rfl⟩
  rw [← hl] at a0 a1 hkl hlen
  obtain ⟨B, hB⟩ : ∃ B, B = w.heap.size := ⟨_, rfl⟩
  have base : ∀ V : World, Below w.heap.size w V → V.heap[w.heap.size]? = some (.cells #[.int .i8 0, .int .i64 0, .int .i64 0, .int .i64 0, .int .i64 0, .int .i64 0, .int .i64 0, .int .i64 0, .int .i64 0, .int .i64 0, .int .i64 0, .slice none 0 0, .int .i64 0, .int .i64 0, .string ⟨#[]⟩, .slice none 0 0] 40 (0, 0)) → (V.cell? ⟨rb, 0, none⟩ = some (.slice (some ⟨g, 0, none⟩) len lc) ∧ V.cell? ⟨rb, 1, none⟩ = some (.slice (some ⟨gh, 0, none⟩) len hc) ∧ V.cell? ⟨gh, k, none⟩ = some (.bool mk) ∧ okAt V (.pointer (some ⟨g, k * 16, none⟩)) = true ∧ cellsAt V (.pointer (some ⟨g, k * 16, none⟩)) = ds.toArray ∧ freeAt V (.pointer (some ⟨B, 0, none⟩)) = true) := fun V hb hn => by
    have hmV := hmt.same (hb.block g hgl)
    exact ⟨(World.cell?_of_block (hb.block rb hrl)).trans a0, (World.cell?_of_block (hb.block rb hrl)).trans a1, (World.cell?_of_block (hb.block gh hghl)).trans a2, hmV.1, hmV.2, by rw [hB]; exact freeAt_of hn rfl⟩
  have hS0 := base W hbW hnW
  have hd : Below w.heap.size w W.drew := below_drewN hbW 1
  have hS1 : ∀ V : World, Below W.heap.size W.drew V → (V.cell? ⟨rb, 0, none⟩ = some (.slice (some ⟨g, 0, none⟩) len lc) ∧ V.cell? ⟨rb, 1, none⟩ = some (.slice (some ⟨gh, 0, none⟩) len hc) ∧ V.cell? ⟨gh, k, none⟩ = some (.bool mk) ∧ okAt V (.pointer (some ⟨g, k * 16, none⟩)) = true ∧ cellsAt V (.pointer (some ⟨g, k * 16, none⟩)) = ds.toArray ∧ freeAt V (.pointer (some ⟨B, 0, none⟩)) = true) := fun V hb => base V (hd.trans (hb.mono hbW.size)) ((hb.block _ (by omega)).trans hnW)
  have hS2 : ∀ (V : World) (cs : List Value), Below W.heap.size W.drew V → cs.length = 16 → ((V.setCells B 0 cs).cell? ⟨rb, 0, none⟩ = some (.slice (some ⟨g, 0, none⟩) len lc) ∧ (V.setCells B 0 cs).cell? ⟨rb, 1, none⟩ = some (.slice (some ⟨gh, 0, none⟩) len hc) ∧ (V.setCells B 0 cs).cell? ⟨gh, k, none⟩ = some (.bool mk) ∧ okAt (V.setCells B 0 cs) (.pointer (some ⟨g, k * 16, none⟩)) = true ∧ cellsAt (V.setCells B 0 cs) (.pointer (some ⟨g, k * 16, none⟩)) = ds.toArray ∧ freeAt (V.setCells B 0 cs) (.pointer (some ⟨B, 0, none⟩)) = true) := fun V cs hb h16 => by
    have hVn : V.heap[w.heap.size]? = some (.cells #[.int .i8 0, .int .i64 0, .int .i64 0, .int .i64 0, .int .i64 0, .int .i64 0, .int .i64 0, .int .i64 0, .int .i64 0, .int .i64 0, .int .i64 0, .slice none 0 0, .int .i64 0, .int .i64 0, .string ⟨#[]⟩, .slice none 0 0] 40 (0, 0)) := (hb.block _ (by omega)).trans hnW
    have hst := store_msg (cs := cs) hVn rfl h16
    have e := hS1 V hb
    rw [hB]
    rw [hB] at e
    have hmV := MsgThere.same (w' := V.setCells w.heap.size 0 cs) ⟨e.2.2.2.1, e.2.2.2.2.1⟩ (hst.2.2.1 g (by omega))
    exact ⟨(World.cell?_of_block (hst.2.2.1 rb (by omega))).trans e.1, (World.cell?_of_block (hst.2.2.1 rb (by omega))).trans e.2.1, (World.cell?_of_block (hst.2.2.1 gh (by omega))).trans e.2.2.1, hmV.1, hmV.2, freeAt_of hst.1 (by simpa using h16)⟩
  have hmsg : MsgAt W.drew (Old w) (.agg ds.toArray) m := by
    rw [hds]
    have hin2 : MsgIn W.drew (Old w) m sa ka := hin.kept fun x hx => ⟨h0 x hx.1, hd.block x (h0 x hx.1)⟩
    exact hin2.at sc cap
  have hcall : Calls Try.prog 41 #[.agg ds.toArray] W.drew fun e V => ∃ cs : List Value, e = .returned (.agg cs.toArray) ∧ cs.length = 16 ∧ isMsg (.agg cs.toArray) = true ∧ (∃ sa sc ka cap, cs = msgCells m sa sc ka cap ∧ MsgIn V (Fresh W V) m sa ka) ∧ Below W.heap.size W.drew V :=
    (copy_msg W.drew (Old w) (.agg ds.toArray) m hm (fun x hx => Nat.lt_of_lt_of_le hx hd.size) hmsg).mono fun e V ⟨v, he, hv, hb⟩ => by
      obtain ⟨sa', sc', ka', cap', hv', hin'⟩ := hv.cells
      exact ⟨msgCells m sa' sc' ka' cap', by rw [he, hv'], rfl, isMsg_agg rfl (msgCells_one m sa' sc' ka' cap'), ⟨sa', sc', ka', cap', rfl, hin'⟩, hb⟩
  have hend : ∀ (V : World) (cs : List Value), Below W.heap.size W.drew V → cs.length = 16 → (∃ sa sc ka cap, cs = msgCells m sa sc ka cap ∧ MsgIn V (Fresh W V) m sa ka) → (V.setCells B 0 cs).heap[B]? = some (.cells cs.toArray 40 (0, 0)) ∧ RLookC w (m, mk) (.returned (.tuple #[.agg cs.toArray, .bool mk, .int .i64 0])) (V.setCells B 0 cs) := fun V cs hb h16 ⟨sa', sc', ka', cap', e1, e2⟩ => by
    have hVn : V.heap[w.heap.size]? = some (.cells #[.int .i8 0, .int .i64 0, .int .i64 0, .int .i64 0, .int .i64 0, .int .i64 0, .int .i64 0, .int .i64 0, .int .i64 0, .int .i64 0, .int .i64 0, .slice none 0 0, .int .i64 0, .int .i64 0, .string ⟨#[]⟩, .slice none 0 0] 40 (0, 0)) := (hb.block _ (by omega)).trans hnW
    have hst := store_msg (cs := cs) hVn rfl h16
    rw [hB]
    refine ⟨hst.1, cs, rfl, h16, ⟨sa', sc', ka', cap', e1, e2.kept fun x hx => ⟨⟨by have := hx.1; omega, by rw [hst.2.1]; exact hx.2⟩, hst.2.2.1 x (by have := hx.1; omega)⟩⟩, (hd.trans (hb.mono hbW.size)).trans (hst.2.2.2 _ (Nat.le_refl _))⟩
  have HS := Lib.hid (And.intro hS0 (And.intro hS1 (And.intro hS2 (And.intro hcall hend))))
  have HW := Lib.hid hW
  have HB := Lib.hid hB
  have hkn : (0 : Int) ≤ (k : Int) := by omega
  have hki : (k : Int) < (len : Int) := by omega
  have cW0 := hS0.1
  clear h0 h1 h2 h3 h4 h5 h6 h7 hk hm hin hcells hmt hgl hghl hrl hds hbW hnW hsW a0 a1 a2 hl base hS0 hd hS1 hS2 hmsg hcall hend hB hW
  rw [HW.out] at cW0
  go_enter Try.func23, Try.ntmps23
  go_wp2_with fail
  rw [← HB.out, ← HW.out]
  clear cW0
  go_region_held3 (fun W => W.cell? ⟨rb, 0, none⟩ = some (.slice (some ⟨g, 0, none⟩) len lc) ∧ W.cell? ⟨rb, 1, none⟩ = some (.slice (some ⟨gh, 0, none⟩) len hc) ∧ W.cell? ⟨gh, k, none⟩ = some (.bool mk) ∧ okAt W (.pointer (some ⟨g, k * 16, none⟩)) = true ∧ cellsAt W (.pointer (some ⟨g, k * 16, none⟩)) = ds.toArray ∧ freeAt W (.pointer (some ⟨B, 0, none⟩)) = true) (first | exact HS.out.1 | exact HS.out.2.1 _ hb2 | exact HS.out.2.2.1 _ _ hb2 h16) (first
    | (go_at_call 41; refine HS.out.2.2.2.1.mono ?_; rintro e w2 ⟨cs, rfl, h16, hmsg, hmi, hb2⟩; have fW := (HS.out.2.1 w2 hb2).2.2.2.2.2))
  all_goals (
    have hE := HS.out.2.2.2.2 w2 cs hb2 h16 hmi
    clear fW
    generalize w2.setCells B 0 cs = W3 at hE ⊢
    go_wp2_with fail
    refine bodyPost_ret (results_cell_row3 rfl _ _ B 40 _ (0, 0) _ rfl hE.1 Try.underlying40 rfl (by rw [List.size_toArray, h16]; kernel_rfl)) rfl ?_
    exact hE.2)

end Go.Proofs.Ytklpafognbodhaa
