/-
  The document's own net: its call Send, where it takes the message. No condition but that it lies where it is said to lie.
-/
import Derived.Test.YtklpafognbodhaaRNetEnd
import Derived.Deep.RegionHeld3
import Derived.Deep.RegionLaw
namespace Go.Proofs.Ytklpafognbodhaa
open Go.RowKit

theorem Try.infoM : (Try.prog.info? 40).map (fun i => (i.size, i.bytes, i.zero.map (fun z => z.cells.size))) = some (16, 168, some 16) := by kernel_rfl

theorem Try.infoB : (Try.prog.info? 4).map (fun i => (i.size, i.bytes, i.zero.map (fun z => z.cells.size))) = some (1, 1, some 1) := by kernel_rfl

set_option maxRecDepth 100000 in
set_option maxHeartbeats 2000000 in
theorem rsend_yes (w : World) (S U : Nat → Prop) (rb : Nat) (l : List Item) (v : Value) (m : Msg) (h : RNetAt w S rb l) (hU : ∀ k, U k → k < w.heap.size) (hv : MsgAt w U v m) (hm : m.small) (hlen : l.length < 1024) (ha1 : isAddr m.frm = true) (ha2 : isAddr m.to = true) :
    Calls Try.prog 16 #[.pointer (some ⟨rb, 0, none⟩), v] w (NetC w S rb (l ++ [(m, false)]) (.int .i64 0)) := by
  have hv' := hv
  obtain ⟨sa, sc, ka, cap, rfl, _, _⟩ := hv
  obtain ⟨sl, hsl⟩ : ∃ y, y = m.steps.length := ⟨_, rfl⟩
  obtain ⟨tl, htl⟩ : ∃ y, y = foLen m.tree.kids := ⟨_, rfl⟩
  rw [← hsl, ← htl] at hv'
  rw [← hsl, ← htl]
  have hb : Below w.heap.size w (w.alloc (.cells #[.int .i8 m.kind, .int .i64 m.frm, .int .i64 m.to, .int .i64 m.boot, .int .i64 m.server, .int .i64 m.number, .int .i64 m.node, .int .i64 m.lease, .int .i64 m.epoch, .int .i64 m.version, .int .i64 m.e, .slice sa sl sc, .int .i64 m.tree.id, .int .i64 m.tree.kind, .string m.tree.text, .slice ka tl cap] 40)) := (Below.refl _ _).alloc (Nat.le_refl _) _
  have hcopy := fun (W : World) (hbW : Below w.heap.size w W) => copy_msg W U (.agg #[.int .i8 m.kind, .int .i64 m.frm, .int .i64 m.to, .int .i64 m.boot, .int .i64 m.server, .int .i64 m.number, .int .i64 m.node, .int .i64 m.lease, .int .i64 m.epoch, .int .i64 m.version, .int .i64 m.e, .slice sa sl sc, .int .i64 m.tree.id, .int .i64 m.tree.kind, .string m.tree.text, .slice ka tl cap]) m hm (fun k hk => Nat.lt_of_lt_of_le (hU k hk) hbW.size) (hv'.kept fun x hx => ⟨hx, hbW.block x (hU x hx)⟩)
  have HC := Lib.hid hcopy
  have HR := Lib.hid (And.intro h hb)
  obtain ⟨h0, h1, lv, hvv, xs, h2, h3, h4, h5, h6, h7⟩ := h
  obtain ⟨la, lc, rfl⟩ := owns_slice h3
  have hlt : rb < w.heap.size := lt_of_some h2
  have c0 : w.cell? ⟨rb, 0, none⟩ = some (.slice la l.length lc) := by rw [cell_of_row w _ 0 _ _ _ h2]; rfl
  obtain ⟨len, hl⟩ : ∃ len, len = l.length := ⟨_, rfl⟩
  rw [← hl] at c0 hlen
  have a1 := fun W => address_any W m.frm true ha1
  have a2 := fun W => address_any W m.to true ha2
  have A1 := Lib.hid a1
  have A2 := Lib.hid a2
  have hpack : ∀ (w2 : World) (sa2 : Option Addr) (sc2 : Nat) (ka2 : Option Addr) (cap2 : Nat), Below ((w.alloc (.cells #[.int .i8 m.kind, .int .i64 m.frm, .int .i64 m.to, .int .i64 m.boot, .int .i64 m.server, .int .i64 m.number, .int .i64 m.node, .int .i64 m.lease, .int .i64 m.epoch, .int .i64 m.version, .int .i64 m.e, .slice sa sl sc, .int .i64 m.tree.id, .int .i64 m.tree.kind, .string m.tree.text, .slice ka tl cap] 40)).drew).heap.size ((w.alloc (.cells #[.int .i8 m.kind, .int .i64 m.frm, .int .i64 m.to, .int .i64 m.boot, .int .i64 m.server, .int .i64 m.number, .int .i64 m.node, .int .i64 m.lease, .int .i64 m.epoch, .int .i64 m.version, .int .i64 m.e, .slice sa sl sc, .int .i64 m.tree.id, .int .i64 m.tree.kind, .string m.tree.text, .slice ka tl cap] 40)).drew) w2 → (w2.alloc (.cells #[.int .i8 m.kind, .int .i64 m.frm, .int .i64 m.to, .int .i64 m.boot, .int .i64 m.server, .int .i64 m.number, .int .i64 m.node, .int .i64 m.lease, .int .i64 m.epoch, .int .i64 m.version, .int .i64 m.e, .slice sa2 m.steps.length sc2, .int .i64 m.tree.id, .int .i64 m.tree.kind, .string m.tree.text, .slice ka2 (foLen m.tree.kids) cap2] 40)).ownsRow 0 40 16 (.slice la len lc) len xs ∧ (w2.alloc (.cells #[.int .i8 m.kind, .int .i64 m.frm, .int .i64 m.to, .int .i64 m.boot, .int .i64 m.server, .int .i64 m.number, .int .i64 m.node, .int .i64 m.lease, .int .i64 m.epoch, .int .i64 m.version, .int .i64 m.e, .slice sa2 m.steps.length sc2, .int .i64 m.tree.id, .int .i64 m.tree.kind, .string m.tree.text, .slice ka2 (foLen m.tree.kids) cap2] 40)).heap[w2.heap.size]? = some (.cells #[.int .i8 m.kind, .int .i64 m.frm, .int .i64 m.to, .int .i64 m.boot, .int .i64 m.server, .int .i64 m.number, .int .i64 m.node, .int .i64 m.lease, .int .i64 m.epoch, .int .i64 m.version, .int .i64 m.e, .slice sa2 m.steps.length sc2, .int .i64 m.tree.id, .int .i64 m.tree.kind, .string m.tree.text, .slice ka2 (foLen m.tree.kids) cap2] 40 (0, 0)) ∧
      rb < (w2.alloc (.cells #[.int .i8 m.kind, .int .i64 m.frm, .int .i64 m.to, .int .i64 m.boot, .int .i64 m.server, .int .i64 m.number, .int .i64 m.node, .int .i64 m.lease, .int .i64 m.epoch, .int .i64 m.version, .int .i64 m.e, .slice sa2 m.steps.length sc2, .int .i64 m.tree.id, .int .i64 m.tree.kind, .string m.tree.text, .slice ka2 (foLen m.tree.kids) cap2] 40)).heap.size ∧ (w2.alloc (.cells #[.int .i8 m.kind, .int .i64 m.frm, .int .i64 m.to, .int .i64 m.boot, .int .i64 m.server, .int .i64 m.number, .int .i64 m.node, .int .i64 m.lease, .int .i64 m.epoch, .int .i64 m.version, .int .i64 m.e, .slice sa2 m.steps.length sc2, .int .i64 m.tree.id, .int .i64 m.tree.kind, .string m.tree.text, .slice ka2 (foLen m.tree.kids) cap2] 40)).cell? ⟨rb, 0, none⟩ = some (.slice la len lc) ∧ (w2.alloc (.cells #[.int .i8 m.kind, .int .i64 m.frm, .int .i64 m.to, .int .i64 m.boot, .int .i64 m.server, .int .i64 m.number, .int .i64 m.node, .int .i64 m.lease, .int .i64 m.epoch, .int .i64 m.version, .int .i64 m.e, .slice sa2 m.steps.length sc2, .int .i64 m.tree.id, .int .i64 m.tree.kind, .string m.tree.text, .slice ka2 (foLen m.tree.kids) cap2] 40)).frozen? ⟨rb, 0, none⟩ = false ∧ (Value.slice la len lc).ownBlock ≠ some rb ∧ w2.cell? ⟨rb, 0, none⟩ = some (.slice la len lc) := fun w2 sa2 sc2 ka2 cap2 hb2 => by
    have hW := hb2.size
    have hW1 : w.heap.size < ((w.alloc (.cells #[.int .i8 m.kind, .int .i64 m.frm, .int .i64 m.to, .int .i64 m.boot, .int .i64 m.server, .int .i64 m.number, .int .i64 m.node, .int .i64 m.lease, .int .i64 m.epoch, .int .i64 m.version, .int .i64 m.e, .slice sa sl sc, .int .i64 m.tree.id, .int .i64 m.tree.kind, .string m.tree.text, .slice ka tl cap] 40)).drew).heap.size := by show w.heap.size < (w.alloc _).heap.size; simp
    have old : ∀ x, x < w.heap.size → w2.heap[x]? = w.heap[x]? := fun x hx => (hb2.block x (by omega)).trans (Below.heap_alloc w _ x hx)
    have h2' := (old rb hlt).trans h2
    have h3' : w2.ownsRow 0 40 16 (.slice la len lc) len xs := by rw [hl]; exact owns_kept h3 (fun g cur hg _ => old g (lt_of_some hg))
    have h2a := (Below.heap_alloc w2 (.cells #[.int .i8 m.kind, .int .i64 m.frm, .int .i64 m.to, .int .i64 m.boot, .int .i64 m.server, .int .i64 m.number, .int .i64 m.node, .int .i64 m.lease, .int .i64 m.epoch, .int .i64 m.version, .int .i64 m.e, .slice sa2 m.steps.length sc2, .int .i64 m.tree.id, .int .i64 m.tree.kind, .string m.tree.text, .slice ka2 (foLen m.tree.kids) cap2] 40) rb (by omega)).trans h2'
    rw [← hl] at h2' h2a
    exact ⟨h3'.alloc _, heap_alloc_new w2 _, by simp; omega, by rw [cell_of_row _ _ 0 _ _ _ h2a]; rfl, frozen_of_row _ _ 0 _ _ h2a, owned_ne h3' h2' (by decide), by rw [cell_of_row _ _ 0 _ _ _ h2']; rfl⟩
  have HPK := Lib.hid hpack
  clear hpack
  have hend : ∀ (w2 w1 : World) (sa2 : Option Addr) (sc2 : Nat) (ka2 : Option Addr) (cap2 gg cap' : Nat) (o' : Obj), Below (w.alloc (.cells #[.int .i8 m.kind, .int .i64 m.frm, .int .i64 m.to, .int .i64 m.boot, .int .i64 m.server, .int .i64 m.number, .int .i64 m.node, .int .i64 m.lease, .int .i64 m.epoch, .int .i64 m.version, .int .i64 m.e, .slice sa sl sc, .int .i64 m.tree.id, .int .i64 m.tree.kind, .string m.tree.text, .slice ka tl cap] 40)).drew.heap.size (w.alloc (.cells #[.int .i8 m.kind, .int .i64 m.frm, .int .i64 m.to, .int .i64 m.boot, .int .i64 m.server, .int .i64 m.number, .int .i64 m.node, .int .i64 m.lease, .int .i64 m.epoch, .int .i64 m.version, .int .i64 m.e, .slice sa sl sc, .int .i64 m.tree.id, .int .i64 m.tree.kind, .string m.tree.text, .slice ka tl cap] 40)).drew w2 → StepsAt w2 (Fresh (w.alloc (.cells #[.int .i8 m.kind, .int .i64 m.frm, .int .i64 m.to, .int .i64 m.boot, .int .i64 m.server, .int .i64 m.number, .int .i64 m.node, .int .i64 m.lease, .int .i64 m.epoch, .int .i64 m.version, .int .i64 m.e, .slice sa sl sc, .int .i64 m.tree.id, .int .i64 m.tree.kind, .string m.tree.text, .slice ka tl cap] 40)).drew w2) sa2 m.steps → FoAt w2 (Fresh (w.alloc (.cells #[.int .i8 m.kind, .int .i64 m.frm, .int .i64 m.to, .int .i64 m.boot, .int .i64 m.server, .int .i64 m.number, .int .i64 m.node, .int .i64 m.lease, .int .i64 m.epoch, .int .i64 m.version, .int .i64 m.e, .slice sa sl sc, .int .i64 m.tree.id, .int .i64 m.tree.kind, .string m.tree.text, .slice ka tl cap] 40)).drew w2) m.tree.kids ka2 →
      w1.ownsRow 0 40 16 (.slice (some ⟨gg, 0, none⟩) (len + 1) cap') (len + 1) (xs ++ msgCells m sa2 sc2 ka2 cap2) → (w2.alloc o').grownBy w1 (Value.slice la len lc).ownBlock → ((Value.slice la len lc).ownBlock = some gg ∨ gg = w2.heap.size + 1) →
      SendMid w (w1.setCell ⟨rb, 0, none⟩ (.slice (some ⟨gg, 0, none⟩) (len + 1) cap')) S rb l m (.slice (some ⟨gg, 0, none⟩) (len + 1) cap') hvv := by
    intro w2 w1 sa2 sc2 ka2 cap2 gg cap' o' hb2 hs2 hf2 hown hgrow hat
    subst hl
    exact send_mid h0 h1 h2 h3 h4 h5 h6 h7 hb2 hs2 hf2 hown hgrow hat
  have HEND := Lib.hid hend
  have HL := Lib.hid hl
  clear hend h4 h5 h6 h7
  clear hsl htl hb h0 h1 h2 h3 hl a1 a2 ha1 ha2 hcopy hv' hm hU
  have hfull2 : ¬ (1024 : Int) ≤ (len : Int) := by omega
  go_enter Try.func16, Try.ntmps16
  go_wp2_with fail
  refine (A1.out _).mono ?_
  rintro e w' ⟨rfl, rfl⟩
  go_wp2_with fail
  refine (A2.out _).mono ?_
  rintro e w' ⟨rfl, rfl⟩
  go_wp2_with fail
  have hbd : Below w.heap.size w (w.alloc (.cells #[.int .i8 m.kind, .int .i64 m.frm, .int .i64 m.to, .int .i64 m.boot, .int .i64 m.server, .int .i64 m.number, .int .i64 m.node, .int .i64 m.lease, .int .i64 m.epoch, .int .i64 m.version, .int .i64 m.e, .slice sa sl sc, .int .i64 m.tree.id, .int .i64 m.tree.kind, .string m.tree.text, .slice ka tl cap] 40)).drew := below_drewN HR.out.2 1
  have HBD := Lib.hid hbd
  clear hbd
  obtain ⟨i0, z0, hi0, hz0, hz1, hz2, hz3⟩ := info_wide Try.infoM
  go_region_law (first
    | (go_simp; go_at_call 41; refine (HC.out _ HBD.out).mono ?_; rintro e w2 ⟨_, rfl, ⟨sa2, sc2, ka2, cap2, rfl, hs2, hf2⟩, hb2⟩; have HP := Lib.hid (HPK.out w2 sa2 sc2 ka2 cap2 hb2); have c0w := HP.out.2.2.2.2.2.2; have c0x := HP.out.2.2.2.1)
    | (refine step_append_lies _ (by rfl) _ _ _ (by rfl) 0 40 i0 z0 16 168 Try.underlying28 hi0 hz0 hz1 hz2 hz3 (by omega) (.slice la len lc) len xs (by rfl) HP.out.1 ⟨w2.heap.size, 0, none⟩ 1 1 [.int .i8 m.kind, .int .i64 m.frm, .int .i64 m.to, .int .i64 m.boot, .int .i64 m.server, .int .i64 m.number, .int .i64 m.node, .int .i64 m.lease, .int .i64 m.epoch, .int .i64 m.version, .int .i64 m.e, .slice sa2 m.steps.length sc2, .int .i64 m.tree.id, .int .i64 m.tree.kind, .string m.tree.text, .slice ka2 (foLen m.tree.kids) cap2] (by rfl) (by rfl) (World.news_of_block (cs := #[.int .i8 m.kind, .int .i64 m.frm, .int .i64 m.to, .int .i64 m.boot, .int .i64 m.server, .int .i64 m.number, .int .i64 m.node, .int .i64 m.lease, .int .i64 m.epoch, .int .i64 m.version, .int .i64 m.e, .slice sa2 m.steps.length sc2, .int .i64 m.tree.id, .int .i64 m.tree.kind, .string m.tree.text, .slice ka2 (foLen m.tree.kids) cap2]) (t := 40) (fr := (0, 0)) HP.out.2.1) (by simp [Value.oneCell']) (by omega) (by unfold maxLen; omega) (by omega) (by omega) (w2.heap.size + 1) (by simp) ?_; intro gg cap' w1 hown1 hgrow hat hlt1; have c1w := (hgrow.cell_far (a := ⟨rb, 0, none⟩) HP.out.2.2.1 (Ne.symm HP.out.2.2.2.2.2.1)).trans HP.out.2.2.2.1; have f1w := (hgrow.frozen_far (a := ⟨rb, 0, none⟩) HP.out.2.2.1 (Ne.symm HP.out.2.2.2.2.2.1)).trans HP.out.2.2.2.2.1))
  all_goals (
    have hmid := HEND.out w2 w1 sa2 sc2 ka2 cap2 gg cap' _ hb2 hs2 hf2 hown1 hgrow hat
    generalize w1.setCell ⟨rb, 0, none⟩ (.slice (some ⟨gg, 0, none⟩) (len + 1) cap') = W at hmid ⊢
    obtain ⟨e0, e1, e2, e3, e4, e5, e6, e7, e8⟩ := id hmid
    have r1 : W.cell? ⟨rb, 1, none⟩ = some hvv := by rw [cell_of_row W _ 1 _ _ _ e4]; rfl
    have hltW := lt_of_some e4
    have e4a := (Below.heap_alloc W (.cells #[.bool false] 4) rb hltW).trans e4
    have HQ := Lib.hid (And.intro hmid (And.intro e7 (And.intro (owned_ne e7 e4 (by decide)) (And.intro e4a (lt_of_some e4a)))))
    rw [← HL.out] at HQ
    have HNW := Lib.hid (heap_alloc_new W (.cells #[.bool false] 4))
    obtain ⟨j0, y0, hj0, hy0, hy1, hy2, hy3⟩ := info_wide Try.infoB
    clear hmid e0 e1 e2 e3 e4 e5 e6 e7 e8 e4a hown1 hgrow hat hs2 hf2 hb2 c1w f1w
    go_wp2_with (at_builtin; refine wpList_append_lies _ rfl (.tmp 36) (.tmp 37) _ rfl 0 4 j0 y0 1 1 Try.underlying29 hj0 hy0 hy1 hy2 hy3 (by omega) hvv len (marks l) rfl (HQ.out.2.1.alloc _) ⟨W.heap.size, 0, none⟩ 1 1 [.bool false] rfl rfl (World.news_of_block (cs := #[.bool false]) (t := 4) (fr := (0, 0)) HNW.out) (by simp [Value.oneCell']) (by omega) (by unfold maxLen; omega) (by omega) (by omega) (W.heap.size + 1) (by simp) ?_; intro g3 c3 w3 hown3 hgrow3 hat3 hlt3; have c1z := (hgrow3.cell_far (a := ⟨rb, 1, none⟩) HQ.out.2.2.2.2 (Ne.symm HQ.out.2.2.1)).trans (cell_of_row _ _ 1 _ _ _ HQ.out.2.2.2.1); have f1z := (hgrow3.frozen_far (a := ⟨rb, 1, none⟩) HQ.out.2.2.2.2 (Ne.symm HQ.out.2.2.1)).trans (frozen_of_row _ _ 1 _ _ HQ.out.2.2.2.1))
    go_ret
    have hfin := send_end (g3 := g3) (c3 := c3) (w3 := w3) HQ.out.1 (by rw [← HL.out]; exact hown3) hgrow3 hat3
    rw [← HL.out] at hfin
    exact hfin)

end Go.Proofs.Ytklpafognbodhaa
