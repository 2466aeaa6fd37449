/-
  What 'step' answers of two nets that hold the same: All. No condition.
  What 'step' answers of any act whose message is no greater than the law asks; two new nets. No condition.
  What NetPlays answers: true. No condition but that its argument lies in memory as it came in.
  NetPlays over a row of acts that came in. No condition.
-/
import Derived.Test.YtklpafognbodhaaStep2
import Derived.Test.YtklpafognbodhaaNTold
import Derived.Test.YtklpafognbodhaaNetGreat
import Derived.Test.YtklpafognbodhaaPWakes
import Derived.Deep.Cut
namespace Go.Proofs.Ytklpafognbodhaa
open Go.RowKit

variable {w0 W w : World} {T : Nat → Prop} {nb rb : Nat} {l lm : List Item}
/-- What the document's net holds, told of the program's. -/
theorem half_told (h : Half w0 w T nb rb l l) : ∃ la lc, w.cell? ⟨rb, 0, none⟩ = some (.slice la l.length lc) ∧ ∀ k : Int, Calls Try.prog 9 #[.pointer (some ⟨nb, 0, none⟩), .slice la l.length lc, .int .i64 k] w fun e w' => e = .returned (.bool true) ∧ Below w.heap.size w w' := by
  obtain ⟨SP, SR, pl, h⟩ := h
  obtain ⟨hS, _, lv, hv, xs, h2, h3, _, h5, _, h7⟩ := h.rnet
  obtain ⟨la, lc, rfl⟩ := owns_slice h3
  have ml : MsgsAt w SR la l := fun h0 => by
    rcases h3.2 with ⟨_, hn⟩ | ⟨g, cap, cur, hv', _, hh, _, _, _, ht⟩
    · omega
    · cases hv'
      refine ⟨g, 0, rfl, lt_of_some hh, fun k q hq => ?_⟩
      obtain ⟨sa, sc, ka, cap, hc, hin⟩ := MsgRow.at k q.1 h7 (by rw [List.getElem?_map, hq]; rfl)
      refine ⟨sa, sc, ka, cap, there_msg hh rfl (fun j u hj => ?_), hin.kept fun x hx => ⟨hx.1, rfl⟩⟩
      have h9 := hc j u hj
      rw [← ht, List.getElem?_take] at h9
      split at h9
      · rw [Nat.zero_add]; simpa using h9
      · cases h9
  exact ⟨la, lc, by rw [cell_of_row w _ 0 _ _ _ h2]; rfl, fun k => told_any w SP T SR nb la lc k pl l h.prow h.prow.2.2.1 h.goodm h.tl h.like ml hS⟩
theorem gone_told (h : Gone w0 W T nb rb l l w) : ∃ la lc, w.cell? ⟨rb, 0, none⟩ = some (.slice la l.length lc) ∧ ∀ k : Int, Calls Try.prog 9 #[.pointer (some ⟨nb, 0, none⟩), .slice la l.length lc, .int .i64 k] w fun e w' => e = .returned (.bool true) ∧ Below w.heap.size w w' := by
  obtain ⟨T', _, h2⟩ := h
  exact half_told h2

theorem cell_on {w w' : World} (hb : Below w.heap.size w w') {p : Addr} {v : Value} (h : w.cell? p = some v) : w'.cell? p = some v := (World.cell?_of_block (hb.block _ (World.block_lt_of_cell? w _ h))).trans h

set_option maxRecDepth 100000 in
set_option maxHeartbeats 2000000 in
theorem step_told (w0 w : World) (T : Nat → Prop) (nb rb : Nat) (l : List Item) (a k : Int) (h0 : ¬ a = 0) (h1 : ¬ a = 1) (h2 : ¬ a = 2) (h3 : ¬ a = 3) (h4 : ¬ a = 4) (h5 : ¬ a = 5) (h6 : ¬ a = 6) (h7 : ¬ a = 7) (c0 c1 c2 c3 c4 c5 c6 c7 c8 c9 c10 c11 c12 c13 c14 c15 : Value) (h : Half w0 w T nb rb l l) :
    Calls Try.prog 7 #[.pointer (some ⟨nb, 0, none⟩), .pointer (some ⟨rb, 0, none⟩), .agg #[.int .i64 a, .int .i64 k, c0, c1, c2, c3, c4, c5, c6, c7, c8, c9, c10, c11, c12, c13, c14, c15]] w (StepC w0 T nb rb w) := by
  have hd : Below (w.alloc (.cells #[.int .i64 a, .int .i64 k, c0, c1, c2, c3, c4, c5, c6, c7, c8, c9, c10, c11, c12, c13, c14, c15] 42)).heap.size (w.alloc (.cells #[.int .i64 a, .int .i64 k, c0, c1, c2, c3, c4, c5, c6, c7, c8, c9, c10, c11, c12, c13, c14, c15] 42)) (w.alloc (.cells #[.int .i64 a, .int .i64 k, c0, c1, c2, c3, c4, c5, c6, c7, c8, c9, c10, c11, c12, c13, c14, c15] 42)).drew := below_drewN (Below.refl _ _) 1
  have g0 := ((h.box (.cells #[.int .i64 a, .int .i64 k, c0, c1, c2, c3, c4, c5, c6, c7, c8, c9, c10, c11, c12, c13, c14, c15] 42)).still hd).gone
  have q1 : (w.alloc (.cells #[.int .i64 a, .int .i64 k, c0, c1, c2, c3, c4, c5, c6, c7, c8, c9, c10, c11, c12, c13, c14, c15] 42)).drew.cell? ⟨w.heap.size, 1, none⟩ = some (.int .i64 k) := (World.cell?_of_block (hd.block w.heap.size (by simp))).trans (by rw [cell_of_row _ _ 1 _ _ _ (heap_alloc_new w _)]; rfl)
  obtain ⟨la, lc, q0, hp⟩ := gone_told g0
  obtain ⟨L, hL⟩ : ∃ L, L = l.length := ⟨_, rfl⟩
  rw [← hL] at q0 hp
  have ht := h.tl
  have HX := Lib.hid (And.intro (hp k) (And.intro (And.intro q1 q0) (And.intro ht g0)))
  clear h hL hp ht g0 q1 q0 hd
  go_enter Try.func7, Try.ntmps7
  go_wp2_with fail
  go_region_held3 (fun V => V.cell? ⟨w.heap.size, 1, none⟩ = some (.int .i64 k) ∧ V.cell? ⟨rb, 0, none⟩ = some (.slice la L lc))
    (first | exact HX.out.2.1 | exact ⟨cell_on hb.out HX.out.2.1.1, cell_on hb.out HX.out.2.1.2⟩ | (go_keep; done))
    (first
      | (go_at_call 9; refine HX.out.1.mono ?_; rintro e w2 ⟨rfl, hb'⟩; have hb := Lib.hid hb'; clear hb'))
  all_goals (
    have HG := Lib.hid ((HX.out.2.2.2.still hb.out).unbox HX.out.2.2.1)
    clear hb
    go_wp2_with fail
    go_ret
    exact HG.out)

end Go.Proofs.Ytklpafognbodhaa
namespace Go.Proofs.Ytklpafognbodhaa
open Go.RowKit

theorem ssum_le : ∀ (l : List Stp), (∀ s ∈ l, foSize s.sub.kids ≤ 2000) → ssum l ≤ l.length * 2000
  | [], _ => by simp [ssum]
  | x :: l, h => by
    have h1 := ssum_le l (fun s hs => h s (List.mem_cons_of_mem _ hs))
    have h2 := h x (by simp)
    simp only [ssum, List.map_cons, List.sum_cons, List.length_cons] at h1 ⊢
    omega
theorem Msg.tiny.small {m : Msg} (h : m.tiny) : m.small := ⟨by have := h.1; omega, fun s hs => by have := h.2.1 s hs; omega, by have := h.2.2; omega⟩
theorem Msg.tiny.sum {m : Msg} (h : m.tiny) : m.sum ≤ 1000000 := by
  have h1 := ssum_le m.steps h.2.1
  have h2 := h.1
  have h3 := h.2.2
  unfold Msg.sum
  omega

theorem step_any (w0 w : World) (T : Nat → Prop) (nb rb : Nat) (l : List Item) (x : NAct) (sa ka : Option Addr) (sc cap : Nat) (hin : MsgIn w T x.m sa ka) (hm : x.m.tiny) (h : Half w0 w T nb rb l l) :
    Calls Try.prog 7 #[.pointer (some ⟨nb, 0, none⟩), .pointer (some ⟨rb, 0, none⟩), .agg (nactCells x sa sc ka cap).toArray] w (StepC w0 T nb rb w) := by
  obtain ⟨a, k, m⟩ := x
  by_cases h0 : a = 0
  · subst h0; exact step_send w0 w T nb rb l k _ _ _ _ _ _ _ _ _ _ _ _ _ _ _ _ m sa ka sc cap rfl hin hm.small hm.sum h
  by_cases h1 : a = 1
  · subst h1; exact step_take w0 w T nb rb l k _ _ _ _ _ _ _ _ _ _ _ _ _ _ _ _ h
  by_cases h2 : a = 2
  · subst h2; exact step_double w0 w T nb rb l k _ _ _ _ _ _ _ _ _ _ _ _ _ _ _ _ h
  by_cases h3 : a = 3
  · subst h3; exact step_hold w0 w T nb rb l k _ _ _ _ _ _ _ _ _ _ _ _ _ _ _ _ h
  by_cases h4 : a = 4
  · subst h4; exact step_look w0 w T nb rb l k _ _ _ _ _ _ _ _ _ _ _ _ _ _ _ _ h
  by_cases h5 : a = 5
  · subst h5; exact step_free w0 w T nb rb l k _ _ _ _ _ _ _ _ _ _ _ _ _ _ _ _ h
  by_cases h6 : a = 6
  · subst h6; exact step_first w0 w T nb rb l k _ _ _ _ _ _ _ _ _ _ _ _ _ _ _ _ h
  by_cases h7 : a = 7
  · subst h7; exact step_clear w0 w T nb rb l k _ _ _ _ _ _ _ _ _ _ _ _ _ _ _ _ h
  exact step_told w0 w T nb rb l a k h0 h1 h2 h3 h4 h5 h6 h7 _ _ _ _ _ _ _ _ _ _ _ _ _ _ _ _ h

/-- Two nets that were made just now. -/
theorem half_new {w w1 : World} {nb : Nat} (h : NetAt w w1 (fun _ => False) nb []) : Half w (w1.alloc (.cells #[.slice none 0 0, .slice none 0 0] 31)) (Old w) nb w1.heap.size [] [] := by
  obtain ⟨_, SP, p1, p2, p3⟩ := h
  have hb : Below w1.heap.size w1 (w1.alloc (.cells #[.slice none 0 0, .slice none 0 0] 31)) := (Below.refl _ _).alloc (Nat.le_refl _) _
  have hs := p3.size
  refine ⟨SP, fun x => x = w1.heap.size, [], p1.below hb, ⟨fun x hx => by rw [hx]; simp, rfl, _, _, [], heap_alloc_new w1 _, World.ownsRow_nil _ _ _ _, World.ownsRow_nil _ _ _ _, (fun g hg => by cases hg), (fun g hg => by cases hg), rfl⟩, True.intro, p3.trans (hb.mono hs), ?_, ?_, ?_, ?_, ?_, ?_, ?_, ?_, ?_⟩
  · intro x hx
    have hx' : x < w.heap.size := hx
    simp; omega
  · intro x hx hp
    have hx' : x < w.heap.size := hx
    have := (p2 x hp).1
    omega
  · intro x hx hr
    have hx' : x < w.heap.size := hx
    omega
  · intro x hx hr
    have := p1.1 x hx
    omega
  · intro x hx
    exact (p2 x hx).1
  · intro x hx
    omega
  · intro x hx
    exact hx
  · exact ⟨by simp, fun p hp => by simp at hp⟩
  · exact ⟨by simp, fun p hp => by simp at hp⟩
end Go.Proofs.Ytklpafognbodhaa
namespace Go.Proofs.Ytklpafognbodhaa
open Go.RowKit

/-- More may be held from here on. -/
theorem wpAnyH_more {P : Program} {md : Region.Mode} {ops : Array Oper} {Q : Exit → Act → World → Prop} {S S' : World → Prop} (hS : ∀ w, S' w → S w) : ∀ {fuel : Nat} {listed : Array Bool} {a : Act} {w : World}, wpAnyH P md ops Q S' fuel listed a w → wpAnyH P md ops Q S fuel listed a w
  | 0, _, _, _, h => h
  | _ + 1, _, _, _, h => ⟨h.1, fun i hi => wpOp_mono (fun _ _ h' => ⟨hS _ h'.1, wpAnyH_more hS h'.2⟩) (h.2 i hi)⟩

section
variable (w : World) (ρ : Operand → Value) (dst : Option Tmp) (x : Operand) (ty' : TypeId) (pos : String) (aft : Array Edge) (g : Option (Nat × Bool))
/-- An act of eighteen cells, out of the middle of a block. -/
theorem load_act {b o : Nat} {cs : List Value} (h : ∀ j u, cs[j]? = some u → w.cell? ⟨b, o + j, none⟩ = some u) (hl : cs.length = 18) (hx : ρ x = .pointer (some ⟨b, o, none⟩)) : (execOp ρ ⟨dst, .load 42 x, ty', pos, aft, g⟩).run Try.prog w = .ok (.value (.agg cs.toArray)) w := by
  have h1 := run_loadAt_mid (P := Try.prog) w b o 42 cs _ h Try.underlying42 rfl (by rw [hl]; kernel_rfl)
  simp only [execOp, Sem.run_bind, hx, h1, Result.andThen_ok, Sem.run_pure]
end

def PlaysL (w : World) (nb rb len : Nat) (i : Value) (wr : World) : Prop := ∃ (k : Nat) (l : List Item) (T : Nat → Prop), k ≤ len ∧ i = .int .i64 k ∧ Half w wr T nb rb l l
theorem Half.below {w0 w : World} {T : Nat → Prop} {nb rb : Nat} {l lm : List Item} (h : Half w0 w T nb rb l lm) : Below w0.heap.size w0 w := by
  obtain ⟨SP, SR, pl, h⟩ := h
  exact h.below
theorem Half.old {w0 w : World} {T : Nat → Prop} {nb rb : Nat} {l lm : List Item} (h : Half w0 w T nb rb l lm) : ∀ x, x < w0.heap.size → T x := by
  obtain ⟨SP, SR, pl, h⟩ := h
  exact h.old
theorem drew_below' (w : World) : Below w.heap.size w w.drew := below_drewN (Below.refl _ _) 1

set_option linter.unusedSimpArgs false in
set_option maxRecDepth 100000 in
set_option maxHeartbeats 4000000 in
theorem netPlays_any (w : World) (a : Option Addr) (cap : Nat) (l : List NAct) (hlen : (l.length : Int) ≤ 9223372036854775807) (h : NActsAt w (Old w) a l) (hft : ∀ x ∈ l, x.m.fits) :
    Calls Try.prog 3 #[.slice a l.length cap] w fun e w' => e = .returned (.bool true) ∧ Below w.heap.size w w' := by
  have HG := Lib.hid (ngreat_any w a cap l (by omega) h hft)
  have HW := Lib.hid wakes_any
  have HA := Lib.hid h
  obtain ⟨len, hl⟩ : ∃ len, len = l.length := ⟨_, rfl⟩
  have HL := Lib.hid hl
  rw [← hl] at hlen HG ⊢
  clear h hft hl
  go_enter Try.func3, Try.ntmps3
  go_upto_region 3 with (first
    | (go_at_call 4; refine HG.out.mono ?_; clear HG; rintro e w1 ⟨bb, rfl, hb, h1⟩; have HT := Lib.hid hb; have H1 := Lib.hid h1; clear hb h1; cases bb)
    | (go_at_call 5; (with_reducible refine (HW.out _).mono ?_); rintro e w2 ⟨rfl, h2⟩; have H2 := Lib.hid h2; clear h2))
  rotate_left
  · go_ret
    exact ⟨rfl, H1.out.trans (H2.out.mono H1.out.size)⟩
  have ht := HT.out trivial
  have hl1 : len ≤ 1100 := by rw [HL.out]; exact ht.1
  have HTT := Lib.hid ht.2
  clear HT ht
  go_wp2_with (go_at_call 6; refine (new_any w w1 H1.out).mono ?_; rintro e w3 ⟨nb, rfl, h3, _⟩; have H3 := Lib.hid (half_new h3); clear h3)
  obtain ⟨rb, hrb⟩ : ∃ rb, rb = w3.heap.size := ⟨_, rfl⟩
  obtain ⟨w4, hw4⟩ : ∃ w4, w4 = w3.alloc (.cells #[.slice none 0 0, .slice none 0 0] 31) := ⟨_, rfl⟩
  rw [← hrb, ← hw4] at H3 ⊢
  clear hrb hw4
  go_loopw [5] (fun i wr => PlaysL w nb rb len i wr) (fun i _ => len - (intOf i).toNat)
  case atStart => exact ⟨0, [], _, Nat.zero_le _, rfl, H3.out⟩
  case round =>
    clear H3
    obtain ⟨k, li, T, hk, rfl, hh⟩ := hrel
    have HH := Lib.hid hh
    clear hh
    by_cases hlt : k < len
    case neg =>
      have hk2 : ¬ (k : Int) < (len : Int) := by omega
      obtain ⟨la, lc, q0, ht⟩ := half_told HH.out
      have HTO := Lib.hid (ht 0)
      have hq1 := World.block_lt_of_cell? wr _ q0
      clear ht
      go_wp2_with (first
        | (go_at_call 9; refine HTO.out.mono ?_; rintro e w5 ⟨rfl, h5⟩; have H5 := Lib.hid h5; clear h5)
        | (go_at_call 5; (with_reducible refine (HW.out _).mono ?_); rintro e w6 ⟨rfl, h6⟩; have H6 := Lib.hid h6; clear h6))
      go_ret
      exact ⟨rfl, HH.out.below.trans ((H5.out.trans (H6.out.mono H5.out.size)).mono HH.out.below.size)⟩
    have hk2 : (k : Int) < (len : Int) := by omega
    obtain ⟨x, hx⟩ : ∃ x, l[k]? = some x := ⟨l[k]'(by rw [← HL.out]; exact hlt), List.getElem?_eq_getElem _⟩
    obtain ⟨b, off, rfl, hSb, hc⟩ := HA.out (by rw [← HL.out]; omega)
    obtain ⟨sa, sc, ka, kcap, hcells, hin⟩ := hc k x hx
    have hTk : ∀ y, Old w y → T y ∧ wr.drew.heap[y]? = w.heap[y]? := fun y hy => ⟨HH.out.old y hy, HH.out.below.block y hy⟩
    have hbw : b < wr.heap.size := Nat.lt_of_lt_of_le hSb HH.out.below.size
    have hcd : ∀ j u, (nactCells x sa sc ka kcap)[j]? = some u → wr.drew.cell? ⟨b, off + k * 18 + j, none⟩ = some u := fun j u hj => (World.cell?_of_block (hTk b hSb).2).trans (hcells j u hj)
    have HST := Lib.hid (step_any w wr.drew T nb rb li x sa ka sc kcap (hin.kept hTk) (HTT.out x (List.mem_of_getElem? hx)) (HH.out.still (drew_below' wr)))
    have HCD := Lib.hid hcd
    clear hc hcells hin hTk hcd hx
    have H18 : (nactCells x sa sc ka kcap).length = 18 := rfl
    obtain ⟨cs, hcs⟩ : ∃ cs, cs = nactCells x sa sc ka kcap := ⟨_, rfl⟩
    rw [← hcs] at HCD HST H18
    clear hcs
    have HSb := Lib.hid (show ∀ X Y : World, X.heap[b]? = Y.heap[b]? → (∀ j u, cs[j]? = some u → Y.cell? ⟨b, off + k * 18 + j, none⟩ = some u) → ∀ j u, cs[j]? = some u → X.cell? ⟨b, off + k * 18 + j, none⟩ = some u from fun X Y e hy j u hj => (World.cell?_of_block e).trans (hy j u hj))
    have HTb := Lib.hid (HH.out.old b hSb)
    go_wp2_with fail
    refine wp_region_held_drew (S := fun V => ∀ j u, cs[j]? = some u → V.cell? ⟨b, off + k * 18 + j, none⟩ = some u) (by kernel_rfl) HCD.out (fun hHeld => ?_)
    refine wpAnyH_take (i := 0) (oi := _) (v := .pointer (some ⟨nb, 0, none⟩)) rfl (by kernel_rfl) (by kernel_rfl) (by kernel_rfl) (fun _ _ _ h => h) (Or.inl ⟨by rfl, ?_⟩) (by assumption) ?_
    · clear hHeld; intro X hSw; skip; clear hSw; go_simp
    simp only [Act.put, List.getElem_toArray, List.getElem_cons_zero, List.getElem_cons_succ, List.setIfInBounds_toArray, List.set_cons_zero, List.set_cons_succ]
    refine wpAnyH_take (i := 1) (oi := _) (v := .pointer (some ⟨rb, 0, none⟩)) rfl (by kernel_rfl) (by kernel_rfl) (by kernel_rfl) (fun _ _ _ h => h) (Or.inl ⟨by rfl, ?_⟩) (by assumption) ?_
    · clear hHeld; intro X hSw; skip; clear hSw; go_simp
    simp only [Act.put, List.getElem_toArray, List.getElem_cons_zero, List.getElem_cons_succ, List.setIfInBounds_toArray, List.set_cons_zero, List.set_cons_succ]
    refine wpAnyH_take (i := 2) (oi := _) (v := .slice (some ⟨b, off, none⟩) len cap) rfl (by kernel_rfl) (by kernel_rfl) (by kernel_rfl) (fun _ _ _ h => h) (Or.inl ⟨by rfl, ?_⟩) (by assumption) ?_
    · clear hHeld; intro X hSw; skip; clear hSw; go_simp
    simp only [Act.put, List.getElem_toArray, List.getElem_cons_zero, List.getElem_cons_succ, List.setIfInBounds_toArray, List.set_cons_zero, List.set_cons_succ]
    refine wpAnyH_take (i := 3) (oi := _) (v := .int .i64 (k : Int)) rfl (by kernel_rfl) (by kernel_rfl) (by kernel_rfl) (fun _ _ _ h => h) (Or.inl ⟨by rfl, ?_⟩) (by assumption) ?_
    · clear hHeld; intro X hSw; skip; clear hSw; go_simp
    simp only [Act.put, List.getElem_toArray, List.getElem_cons_zero, List.getElem_cons_succ, List.setIfInBounds_toArray, List.set_cons_zero, List.set_cons_succ]
    refine wpAnyH_take (i := 4) (oi := _) (v := .pointer (some ⟨b, off + k * 18, none⟩)) rfl (by kernel_rfl) (by kernel_rfl) (by kernel_rfl) (fun _ _ _ h => h) (Or.inl ⟨by rfl, ?_⟩) (by assumption) ?_
    · clear hHeld; intro X hSw; skip; clear hSw; go_simp
    simp only [Act.put, List.getElem_toArray, List.getElem_cons_zero, List.getElem_cons_succ, List.setIfInBounds_toArray, List.set_cons_zero, List.set_cons_succ]
    refine wpAnyH_take (i := 5) (oi := _) (v := .agg cs.toArray) rfl (by kernel_rfl) (by kernel_rfl) (by kernel_rfl) (fun _ _ _ h => h) (Or.inl ⟨by rfl, ?_⟩) (by assumption) ?_
    · clear hHeld; intro X hSw; exact load_act X _ _ _ _ _ _ _ hSw H18 rfl
    simp only [Act.put, List.getElem_toArray, List.getElem_cons_zero, List.getElem_cons_succ, List.setIfInBounds_toArray, List.set_cons_zero, List.set_cons_succ]
    refine wpAnyH_ready (rs := [6]) (by kernel_rfl) (by simp) ?_
    refine AllReadyH.cons (o := _) rfl (fun K hK => ?_) AllReadyH.nil
    rw [if_pos (by rfl)]
    simp only [List.getElem_toArray, List.getElem_cons_zero, List.getElem_cons_succ]
    go_wp2_with (go_at_call 7; refine HST.out.mono ?_; rintro e w5 ⟨rfl, l5, T5, h51, h52⟩; have H51 := Lib.hid h51; have H52 := Lib.hid h52; clear h51 h52)
    refine hK.out _ _ (HSb.out _ _ (H51.out b HTb.out).2 HCD.out) (fun hh => ?_)
    clear hK K hHeld
    have hh5 := hh
    clear hh
    obtain ⟨la, lc, q0⟩ := H52.out.rlen
    have HQ := Lib.hid q0
    have hHeld := hh5
    refine wpAnyH_take (i := 7) (oi := _) (v := .bool false) rfl (by kernel_rfl) (by kernel_rfl) (by kernel_rfl) (fun _ _ _ h => h) (Or.inl ⟨by rfl, ?_⟩) (by assumption) ?_
    · clear hHeld; intro X hSw; skip; clear hSw; go_simp
    simp only [Act.put, List.getElem_toArray, List.getElem_cons_zero, List.getElem_cons_succ, List.setIfInBounds_toArray, List.set_cons_zero, List.set_cons_succ]
    refine wpAnyH_take (i := 8) (oi := _) (v := .bool false) rfl (by kernel_rfl) (by kernel_rfl) (by kernel_rfl) (fun _ _ _ h => h) (Or.inl ⟨by rfl, ?_⟩) (by assumption) ?_
    · clear hHeld; intro X hSw; skip; clear hSw; go_simp
    simp only [Act.put, List.getElem_toArray, List.getElem_cons_zero, List.getElem_cons_succ, List.setIfInBounds_toArray, List.set_cons_zero, List.set_cons_succ]
    clear hHeld
    refine wpAnyH_more (S' := fun X => X.cell? ⟨rb, 0, none⟩ = some (.slice la l5.length lc) ∧ ∀ j u, cs[j]? = some u → X.cell? ⟨b, off + k * 18 + j, none⟩ = some u) (fun _ h => h.2) ?_
    have hHeld := And.intro HQ.out hh5
    have hl5 : l5.length ≤ 1024 := H52.out.good.1
    refine wpAnyH_take (i := 9) (oi := _) (v := .pointer (some ⟨nb, 0, none⟩)) rfl (by kernel_rfl) (by kernel_rfl) (by kernel_rfl) (fun _ _ _ h => h) (Or.inl ⟨by rfl, ?_⟩) (by assumption) ?_
    · clear hHeld; intro X hSw; skip; clear hSw; go_simp
    simp only [Act.put, List.getElem_toArray, List.getElem_cons_zero, List.getElem_cons_succ, List.setIfInBounds_toArray, List.set_cons_zero, List.set_cons_succ]
    refine wpAnyH_take (i := 11) (oi := _) (v := .pointer (some ⟨rb, 0, none⟩)) rfl (by kernel_rfl) (by kernel_rfl) (by kernel_rfl) (fun _ _ _ h => h) (Or.inl ⟨by rfl, ?_⟩) (by assumption) ?_
    · clear hHeld; intro X hSw; skip; clear hSw; go_simp
    simp only [Act.put, List.getElem_toArray, List.getElem_cons_zero, List.getElem_cons_succ, List.setIfInBounds_toArray, List.set_cons_zero, List.set_cons_succ]
    refine wpAnyH_take (i := 12) (oi := _) (v := .pointer (some ⟨rb, 0, none⟩)) rfl (by kernel_rfl) (by kernel_rfl) (by kernel_rfl) (fun _ _ _ h => h) (Or.inl ⟨by rfl, ?_⟩) (by assumption) ?_
    · clear hHeld; intro X hSw; skip; clear hSw; go_simp
    simp only [Act.put, List.getElem_toArray, List.getElem_cons_zero, List.getElem_cons_succ, List.setIfInBounds_toArray, List.set_cons_zero, List.set_cons_succ]
    refine wpAnyH_take (i := 13) (oi := _) (v := .pointer (some ⟨rb, 0, none⟩)) rfl (by kernel_rfl) (by kernel_rfl) (by kernel_rfl) (fun _ _ _ h => h) (Or.inl ⟨by rfl, ?_⟩) (by assumption) ?_
    · clear hHeld; intro X hSw; skip; clear hSw; go_simp
    simp only [Act.put, List.getElem_toArray, List.getElem_cons_zero, List.getElem_cons_succ, List.setIfInBounds_toArray, List.set_cons_zero, List.set_cons_succ]
    refine wpAnyH_take (i := 14) (oi := _) (v := .slice la l5.length lc) rfl (by kernel_rfl) (by kernel_rfl) (by kernel_rfl) (fun _ _ _ h => h) (Or.inl ⟨by rfl, ?_⟩) (by assumption) ?_
    · clear hHeld; intro X hSw; have qX := hSw.1; clear hSw; go_simp
    simp only [Act.put, List.getElem_toArray, List.getElem_cons_zero, List.getElem_cons_succ, List.setIfInBounds_toArray, List.set_cons_zero, List.set_cons_succ]
    refine wpAnyH_take (i := 15) (oi := _) (v := .int .i64 (l5.length : Int)) rfl (by kernel_rfl) (by kernel_rfl) (by kernel_rfl) (fun _ _ _ h => h) (Or.inl ⟨by rfl, ?_⟩) (by assumption) ?_
    · clear hHeld; intro X hSw; skip; clear hSw; go_simp
    simp only [Act.put, List.getElem_toArray, List.getElem_cons_zero, List.getElem_cons_succ, List.setIfInBounds_toArray, List.set_cons_zero, List.set_cons_succ]
    have HLEN := Lib.hid H52.out.len
    refine wpAnyH_ready (rs := [10]) (by kernel_rfl) (by simp) ?_
    refine AllReadyH.cons (o := _) rfl (fun K hK => ?_) AllReadyH.nil
    rw [if_pos (by rfl)]
    simp only [List.getElem_toArray, List.getElem_cons_zero, List.getElem_cons_succ]
    clear hHeld
    go_wp2_with (go_at_call 8; refine HLEN.out.mono ?_; rintro e w6 ⟨rfl, rfl⟩)
    refine hK.out _ _ (And.intro HQ.out hh5) (fun hHeld => ?_)
    clear hK K
    refine wpAnyH_take (i := 16) (oi := _) (v := .bool false) rfl (by kernel_rfl) (by kernel_rfl) (by kernel_rfl) (fun _ _ _ h => h) (Or.inl ⟨by rfl, ?_⟩) (by assumption) ?_
    · clear hHeld; intro X hSw; skip; clear hSw; go_simp
    simp only [Act.put, List.getElem_toArray, List.getElem_cons_zero, List.getElem_cons_succ, List.setIfInBounds_toArray, List.set_cons_zero, List.set_cons_succ]
    refine wpAnyH_take (i := 17) (oi := _) (v := .bool false) rfl (by kernel_rfl) (by kernel_rfl) (by kernel_rfl) (fun _ _ _ h => h) (Or.inl ⟨by rfl, ?_⟩) (by assumption) ?_
    · clear hHeld; intro X hSw; skip; clear hSw; go_simp
    simp only [Act.put, List.getElem_toArray, List.getElem_cons_zero, List.getElem_cons_succ, List.setIfInBounds_toArray, List.set_cons_zero, List.set_cons_succ]
    refine wpAnyH_done (by kernel_rfl) ?_ _
    clear hHeld hh5 q0
    go_wp2_with fail
    exact ⟨⟨k + 1, l5, T5, by omega, by go_num, H52.out⟩, by simp [intOf]; omega⟩
end Go.Proofs.Ytklpafognbodhaa
namespace Go.Proofs.Ytklpafognbodhaa
open Go.ChangeShapes Go.WideShapes Go.ChangeAt Go.RowKit

section
variable {H : Type} {enc : TypeId × Value → H} {w : World} {base : Nat} {spare : Nat → Bool} {held : Bool}
theorem open_plays {a : Option Addr} {len cap : Nat} {d : DataW H} {ps : List MemPlace} (h : DataW.Trod enc Try.prog w base spare held 22 (.slice a len cap) d ps) :
    ∃ l : List NAct, l.length = len ∧ (l.length : Int) ≤ 9223372036854775807 ∧ NActsAt w (Old w) a l ∧ ∀ x ∈ l, x.m.fits := by
  obtain ⟨l, h1, h2, h3⟩ := open_nacts h
  refine ⟨l, h1, ?_, h2, h3⟩
  rw [h1]
  obtain ⟨fuel, hf⟩ := h
  rcases Deep.open_slice Try.underlying22 hf with ⟨hcs, _⟩ | ⟨ad, len', cap', m, n, D, Pl, hcs, _, hl, hm, hmm, _, hi⟩
  · simp [Value.cells] at hcs
    obtain ⟨rfl, rfl, rfl⟩ := hcs
    omega
  · simp [Value.cells] at hcs
    obtain ⟨rfl, rfl, rfl⟩ := hcs
    have hle : len ≤ m := by rw [hmm]; split <;> omega
    unfold maxLen at hm
    omega
end
theorem netPlays_run (w : World) (a : Option Addr) (cap : Nat) (l : List NAct) (h : (l.length : Int) ≤ 9223372036854775807 ∧ NActsAt w (Old w) a l ∧ ∀ x ∈ l, x.m.fits) :
    Calls Try.prog 3 #[.slice a l.length cap] w fun e w' => e = .returned (.bool true) ∧ Below w.heap.size w w' := netPlays_any w a cap l h.1 h.2.1 h.2.2
end Go.Proofs.Ytklpafognbodhaa
