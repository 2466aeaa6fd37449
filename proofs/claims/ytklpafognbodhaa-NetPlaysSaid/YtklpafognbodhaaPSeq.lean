/-
  The function that all hands back: it tells the row's things, one by one, till it is told 'no more'. No condition but that what it bears lies on.
-/
import Derived.RangeFuncNested
import Derived.RangeFuncBound
import Derived.RangeFuncCalls
import Derived.RangeFuncLeaves
import Derived.Shelf.Abstract
import Derived.Shelf.RegionOpen
import Derived.WalkKit
import Derived.OwnWalkIn
import Derived.TacticsInMore
import Derived.LoopNIn
import Derived.LoopIn
import Derived.Test.YtklpafognbodhaaPAll
import Derived.Test.YtklpafognbodhaaTells
namespace Go.Proofs.Ytklpafognbodhaa
open Go.RowKit Go.Shelf
attribute [local go_sem] Oper.semAt_some

/-- The first k things, with their places. -/
def toldL (pl : List PI) (k : Nat) : List (Nat × List Value) := (List.range k).map fun j => (j, ((pl[j]?).map (·.1)).getD [])
theorem toldL_succ {pl : List PI} {k : Nat} {p : PI} (h : pl[k]? = some p) : toldL pl (k + 1) = toldL pl k ++ [(k, p.1)] := by
  simp [toldL, List.range_succ, h]
theorem toldL_length (pl : List PI) (k : Nat) : (toldL pl k).length = k := by simp [toldL]

/-- The k-th item of a row, and the box it is laid into. -/
theorem item_laid {n₀ : Nat} {w wr : World} {g cap : Nat} {pl : List PI} {k : Nat} {p : PI} (hg : Good pl) (hp : pl[k]? = some p) (ho : w.ownsRow n₀ 85 17 (.slice (some ⟨g, 0, none⟩) pl.length cap) pl.length (pcells pl)) (hk : wr.heap[g]? = w.heap[g]?) :
    ∃ cs : List Value, okAtK wr (.pointer (some ⟨g, k * 17, none⟩)) = true ∧ cellsAtK wr (.pointer (some ⟨g, k * 17, none⟩)) = cs.toArray ∧ isK (.agg cs.toArray) = true ∧ freeAtK (wr.alloc (.cells #[.int .i8 0, .int .i64 0, .int .i64 0, .int .i64 0, .int .i64 0, .int .i64 0, .int .i64 0, .int .i64 0, .int .i64 0, .int .i64 0, .int .i64 0, .slice none 0 0, .int .i64 0, .int .i64 0, .string ⟨#[]⟩, .slice none 0 0, .bool false] 85)) (.pointer (some ⟨wr.heap.size, 0, none⟩)) = true ∧ okAt ((wr.alloc (.cells #[.int .i8 0, .int .i64 0, .int .i64 0, .int .i64 0, .int .i64 0, .int .i64 0, .int .i64 0, .int .i64 0, .int .i64 0, .int .i64 0, .int .i64 0, .slice none 0 0, .int .i64 0, .int .i64 0, .string ⟨#[]⟩, .slice none 0 0, .bool false] 85)).setCells wr.heap.size 0 cs) (.pointer (some ⟨wr.heap.size, 0, none⟩)) = true ∧ cellsAt ((wr.alloc (.cells #[.int .i8 0, .int .i64 0, .int .i64 0, .int .i64 0, .int .i64 0, .int .i64 0, .int .i64 0, .int .i64 0, .int .i64 0, .int .i64 0, .int .i64 0, .slice none 0 0, .int .i64 0, .int .i64 0, .string ⟨#[]⟩, .slice none 0 0, .bool false] 85)).setCells wr.heap.size 0 cs) (.pointer (some ⟨wr.heap.size, 0, none⟩)) = p.1.toArray ∧ Below wr.heap.size wr ((wr.alloc (.cells #[.int .i8 0, .int .i64 0, .int .i64 0, .int .i64 0, .int .i64 0, .int .i64 0, .int .i64 0, .int .i64 0, .int .i64 0, .int .i64 0, .int .i64 0, .slice none 0 0, .int .i64 0, .int .i64 0, .string ⟨#[]⟩, .slice none 0 0, .bool false] 85)).setCells wr.heap.size 0 cs) := by
  have hp16 := hg p (List.mem_of_getElem? hp)
  have h17 : p.cells.length = 17 := by simp [PI.cells, hp16.1]
  obtain ⟨cur, hcur⟩ : ∃ cur, w.heap[g]? = some (.cells cur 85 (0, 0)) := by
    rcases ho.2 with ⟨hv, _⟩ | ⟨g', cap', cur, hv, _, hh, _⟩
    · cases hv
    · cases hv; exact ⟨cur, hh⟩
  have ht : KThere wr g (k * 17) p.cells := by
    refine there_K (hk.trans hcur) h17 fun j u hj => ?_
    have h8 := owns_cell ho rfl _ u (pcells_at hg hp j u hj)
    rw [cell_of_row w _ _ _ _ _ hcur] at h8
    exact h8
  have hone : ∀ u ∈ p.cells, u.oneCell' = true := fun u hu => pcells_one hg u (List.mem_flatMap.2 ⟨p, List.mem_of_getElem? hp, hu⟩)
  have hbox := box_stored wr #[.int .i8 0, .int .i64 0, .int .i64 0, .int .i64 0, .int .i64 0, .int .i64 0, .int .i64 0, .int .i64 0, .int .i64 0, .int .i64 0, .int .i64 0, .slice none 0 0, .int .i64 0, .int .i64 0, .string ⟨#[]⟩, .slice none 0 0, .bool false] 85 p.cells (by rw [h17]; rfl)
  refine ⟨p.cells, ht.1, ht.2, isK_agg h17 hone, freeAtK_of (heap_alloc_new wr _) rfl, ?_⟩
  have hm := there_msg (cs := p.1) (o := 0) hbox.2.1 hp16.1 fun j u hj => by
    have hj16 : j < p.1.length := (List.getElem?_eq_some_iff.1 hj).1
    rw [Nat.zero_add]
    simpa [PI.cells, List.getElem?_append_left hj16] using hj
  exact ⟨hm.1, hm.2, hbox.2.2.2.1⟩

attribute [local go_sem ↓] loadM wpLoadM storeM wpStoreM loadK wpLoadK storeK wpStoreK inLoadM inStoreM inLoadK inStoreK
attribute [local go_sem] putAt_ptr
set_option maxRecDepth 100000 in
set_option maxHeartbeats 2000000 in
theorem rowseq (F : Fence) (n : Nat) (hf : F.fn 60) (hro : F.round = none) (hn : 1 ≤ n) (n₀ C : Nat) (pl : List PI) (hg : Good pl) (hlen : pl.length ≤ 1000000) (Kp : Nat → World → World → Prop) (w : World) (hc : RowCell n₀ w C pl)
    (hKp : ∀ l V V', w.heap.size ≤ l → Kp l V V' → ∀ x, n₀ ≤ x → x < w.heap.size → V'.heap[x]? = V.heap[x]?) :
    Tells F n Try.prog 60 #[.pointer (some ⟨C, 0, none⟩)] (fun x : Nat × List Value => #[.int .i64 (x.1 : Int), .agg x.2.toArray]) (fun pre x _ => x.1 = pre.length ∧ ∃ p, pl[x.1]? = some p ∧ x.2 = p.1) Kp (fun ys => ys = toldL pl pl.length) (fun pre => ∃ k, k ≤ pl.length ∧ pre = toldL pl k) pl.length w := by
  intro l J Jx W hW hlw _ hJ _ hY h0
  obtain ⟨hnC, v, hcv, ho⟩ := hc
  obtain ⟨a, cap, rfl⟩ := owns_slice ho
  have hCw := World.block_lt_of_cell? _ _ hcv
  have c0 : W.cell? ⟨C, 0, none⟩ = some (.slice a pl.length cap) := (World.cell?_of_block (hW.block C hCw)).trans hcv
  have hitem : ∀ wr : World, (∀ x, n₀ ≤ x → x < w.heap.size → wr.heap[x]? = w.heap[x]?) → ∀ k p, pl[k]? = some p → ∃ g, a = some ⟨g, 0, none⟩ ∧ ∃ cs : List Value, okAtK wr (.pointer (some ⟨g, k * 17, none⟩)) = true ∧ cellsAtK wr (.pointer (some ⟨g, k * 17, none⟩)) = cs.toArray ∧ isK (.agg cs.toArray) = true ∧ freeAtK (wr.alloc (.cells #[.int .i8 0, .int .i64 0, .int .i64 0, .int .i64 0, .int .i64 0, .int .i64 0, .int .i64 0, .int .i64 0, .int .i64 0, .int .i64 0, .int .i64 0, .slice none 0 0, .int .i64 0, .int .i64 0, .string ⟨#[]⟩, .slice none 0 0, .bool false] 85)) (.pointer (some ⟨wr.heap.size, 0, none⟩)) = true ∧ okAt ((wr.alloc (.cells #[.int .i8 0, .int .i64 0, .int .i64 0, .int .i64 0, .int .i64 0, .int .i64 0, .int .i64 0, .int .i64 0, .int .i64 0, .int .i64 0, .int .i64 0, .slice none 0 0, .int .i64 0, .int .i64 0, .string ⟨#[]⟩, .slice none 0 0, .bool false] 85)).setCells wr.heap.size 0 cs) (.pointer (some ⟨wr.heap.size, 0, none⟩)) = true ∧ cellsAt ((wr.alloc (.cells #[.int .i8 0, .int .i64 0, .int .i64 0, .int .i64 0, .int .i64 0, .int .i64 0, .int .i64 0, .int .i64 0, .int .i64 0, .int .i64 0, .int .i64 0, .slice none 0 0, .int .i64 0, .int .i64 0, .string ⟨#[]⟩, .slice none 0 0, .bool false] 85)).setCells wr.heap.size 0 cs) (.pointer (some ⟨wr.heap.size, 0, none⟩)) = p.1.toArray ∧ Below wr.heap.size wr ((wr.alloc (.cells #[.int .i8 0, .int .i64 0, .int .i64 0, .int .i64 0, .int .i64 0, .int .i64 0, .int .i64 0, .int .i64 0, .int .i64 0, .int .i64 0, .int .i64 0, .slice none 0 0, .int .i64 0, .int .i64 0, .string ⟨#[]⟩, .slice none 0 0, .bool false] 85)).setCells wr.heap.size 0 cs) := fun wr hk k p hp => by
    have hkl := (List.getElem?_eq_some_iff.1 hp).1
    obtain ⟨g, cap', e, _⟩ := ho.form (by omega)
    cases e
    have hgb := owns_bounds ho (g := g) rfl
    exact ⟨g, rfl, item_laid hg hp ho (hk g hgb.1 hgb.2)⟩
  have HI := Lib.hid (And.intro hitem (And.intro (fun V V' => hKp l V V' hlw) (And.intro hJ (And.intro hY hW))))
  obtain ⟨len, hl⟩ : ∃ len, len = pl.length := ⟨_, rfl⟩
  rw [← hl] at c0 hlen
  have HL := Lib.hid hl
  have H0 := Lib.hid h0
  clear hitem hKp hJ hY h0 ho hg hcv hl hlw
  refine callsIn_of_wp Try.func60 rfl hf ?_ hro
  simp only [Try.ntmps60, List.size_toArray, List.length_cons, List.length_nil, Nat.reduceAdd, Nat.reduceSub, Array.replicate_succ, Array.replicate_zero, List.push_toArray, List.append_toArray, List.nil_append, List.cons_append]
  gi_wp2
  clear c0
  gi_loopw [7] (fun i wr => ∃ k : Nat, k ≤ len ∧ i = .int .i64 k ∧ Hid (J (toldL pl k) wr ∧ ∀ x, n₀ ≤ x → x < w.heap.size → wr.heap[x]? = w.heap[x]?)) (fun i _ => len - (intOf i).toNat)
  case atStart => exact ⟨0, Nat.zero_le _, rfl, Lib.hid ⟨H0.out, fun x _ hx => HI.out.2.2.2.2.block x hx⟩⟩
  case round =>
    obtain ⟨k, hk, rfl, hh⟩ := hrel
    by_cases hlt : k < len
    · obtain ⟨p, hp⟩ : ∃ p, pl[k]? = some p := ⟨pl[k]'(by have := HL.out; omega), List.getElem?_eq_getElem _⟩
      obtain ⟨g, rfl, cs, f1, f2, f3, f4, f5, f6, hb⟩ := HI.out.1 wr hh.out.2 k p hp
      have hkl : (k : Int) < (len : Int) := by omega
      have hk0 : (0 : Int) ≤ (k : Int) := by omega
      have hJ1 := HI.out.2.2.1 _ wr ((wr.alloc (.cells #[.int .i8 0, .int .i64 0, .int .i64 0, .int .i64 0, .int .i64 0, .int .i64 0, .int .i64 0, .int .i64 0, .int .i64 0, .int .i64 0, .int .i64 0, .slice none 0 0, .int .i64 0, .int .i64 0, .string ⟨#[]⟩, .slice none 0 0, .bool false] 85)).setCells wr.heap.size 0 cs) none hh.out.1 ⟨hb.os, hb.tape, hb.output, hb.size, fun x hx _ => hb.block x hx⟩ (fun r e => by cases e)
      obtain ⟨fn, tmps, assign, body, hy, hR⟩ := HI.out.2.2.2.1 (toldL pl k) (k, p.1) ((wr.alloc (.cells #[.int .i8 0, .int .i64 0, .int .i64 0, .int .i64 0, .int .i64 0, .int .i64 0, .int .i64 0, .int .i64 0, .int .i64 0, .int .i64 0, .int .i64 0, .slice none 0 0, .int .i64 0, .int .i64 0, .string ⟨#[]⟩, .slice none 0 0, .bool false] 85)).setCells wr.heap.size 0 cs) hJ1 ⟨(toldL_length pl k).symm, p, hp, rfl⟩ (by rw [toldL_length, ← HL.out]; exact hlt)
      dsimp only at hy
      have hkeep : ∀ x, n₀ ≤ x → x < w.heap.size → ((wr.alloc (.cells #[.int .i8 0, .int .i64 0, .int .i64 0, .int .i64 0, .int .i64 0, .int .i64 0, .int .i64 0, .int .i64 0, .int .i64 0, .int .i64 0, .int .i64 0, .slice none 0 0, .int .i64 0, .int .i64 0, .string ⟨#[]⟩, .slice none 0 0, .bool false] 85)).setCells wr.heap.size 0 cs).heap[x]? = w.heap[x]? := fun x h1 h2 => by
        have hx : x < wr.heap.size := by
          have := hh.out.2 x h1 h2
          rw [Array.getElem?_eq_getElem h2] at this
          exact (Array.getElem?_eq_some_iff.1 this).1
        rw [hb.block x hx, hh.out.2 x h1 h2]
      have HK := Lib.hid hkeep
      have HP := Lib.hid hp
      have HR := Lib.hid hR
      clear hb hJ1 hkeep hp hR hh
      gi_wp2
      refine HR.out.mono ?_
      rintro e W3 (⟨rfl, hJ3, hk3⟩ | ⟨rfl, hJx3, _⟩)
      · have HJ := Lib.hid (And.intro hJ3 hk3)
        clear hJ3 hk3
        gi_wp2
        go_roundw
        case rel => exact ⟨k + 1, by omega, by go_num, Lib.hid ⟨by rw [toldL_succ HP.out]; exact HJ.out.1, fun x h1 h2 => (HI.out.2.1 _ _ HJ.out.2 x h1 h2).trans (HK.out x h1 h2)⟩⟩
        case measure => simp [intOf]; omega
      · have HJ := Lib.hid hJx3
        clear hJx3
        gi_wp2
        refine bodyPost_ret (results_none rfl _ _ _) rfl ?_
        exact ⟨⟨_, rfl⟩, .inr ⟨_, ⟨k + 1, by have := HL.out; omega, (toldL_succ HP.out).symm⟩, HJ.out⟩⟩
    · have hkl : ¬ (k : Int) < (len : Int) := by omega
      have hkn : k = len := by omega
      have HH := Lib.hid hh.out.1
      clear hh
      gi_wp2
      go_end0
      refine ⟨⟨_, rfl⟩, .inl ?_⟩
      rw [← HL.out, ← hkn]
      exact HH.out

end Go.Proofs.Ytklpafognbodhaa
