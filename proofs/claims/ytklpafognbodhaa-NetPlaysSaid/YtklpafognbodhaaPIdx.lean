/-
  The program's net: the test that Clear makes of each message, and the first that meets it. No condition but that they lie where they are said to lie.
-/
import Derived.Test.YtklpafognbodhaaPTakeN
import Derived.Laws.EntriesVeiled
namespace Go.Proofs.Ytklpafognbodhaa
open Go.RowKit

set_option maxRecDepth 100000 in
set_option maxHeartbeats 1000000 in
theorem test_any (w : World) (A : Nat) (addr t : Int) (b : Bool) (c0 c1 c3 c4 c5 c6 c7 c8 c9 c10 c11 c12 c13 c14 c15 : Value) (h : w.cell? ⟨A, 0, none⟩ = some (.int .i64 addr)) (hb : decide (t = addr) = b) :
    Calls Try.prog 39 #[.agg #[c0, c1, .int .i64 t, c3, c4, c5, c6, c7, c8, c9, c10, c11, c12, c13, c14, c15], .pointer (some ⟨A, 0, none⟩)] w fun e w' => e = .returned (.bool b) ∧ Below w.heap.size w w' := by
  have hA := World.block_lt_of_cell? w _ h
  have hc := (Below.heap_alloc w (.cells #[c0, c1, .int .i64 t, c3, c4, c5, c6, c7, c8, c9, c10, c11, c12, c13, c14, c15] 40) A hA)
  have hbl : Below w.heap.size w (w.alloc (.cells #[c0, c1, .int .i64 t, c3, c4, c5, c6, c7, c8, c9, c10, c11, c12, c13, c14, c15] 40)) := (Below.refl _ _).alloc (Nat.le_refl _) _
  have h1 : (w.alloc (.cells #[c0, c1, .int .i64 t, c3, c4, c5, c6, c7, c8, c9, c10, c11, c12, c13, c14, c15] 40)).cell? ⟨A, 0, none⟩ = some (.int .i64 addr) := (World.cell?_of_block hc).trans h
  have HB := Lib.hid hbl
  clear hc hbl hA h
  cases b
  · have hne : ¬ t = addr := by simpa using hb
    clear hb
    go_enter Try.func39, Try.ntmps39
    go_wp2_with fail
    go_ret
    exact ⟨by simp [hne], HB.out⟩
  · have he : t = addr := by simpa using hb
    subst he
    clear hb
    go_enter Try.func39, Try.ntmps39
    go_wp2_with fail
    go_ret
    exact ⟨rfl, HB.out⟩

/-- Whom a message is for. -/
def toOf (p : PI) : Int := match (p.1[2]? : Option Value) with
  | some (Value.int IntKind.i64 n) => n
  | _ => 0
def HasTo (l : List PI) : Prop := ∀ p ∈ l, p.1[2]? = some (.int .i64 (toOf p))
theorem test_list (w : World) (A : Nat) (addr : Int) (p : PI) (h16 : p.1.length = 16) (hto : p.1[2]? = some (.int .i64 (toOf p))) (h : w.cell? ⟨A, 0, none⟩ = some (.int .i64 addr)) :
    Calls Try.prog 39 #[.agg p.1.toArray, .pointer (some ⟨A, 0, none⟩)] w fun e w' => e = .returned (.bool (decide (toOf p = addr))) ∧ Below w.heap.size w w' := by
  obtain ⟨cs, m⟩ := p
  generalize toOf (cs, m) = t at hto ⊢
  match cs, h16 with
  | [c0, c1, c2, c3, c4, c5, c6, c7, c8, c9, c10, c11, c12, c13, c14, c15], _ =>
    simp only [List.getElem?_cons_succ, List.getElem?_cons_zero, Option.some.injEq] at hto
    subst hto
    exact test_any w A addr t _ c0 c1 c3 c4 c5 c6 c7 c8 c9 c10 c11 c12 c13 c14 c15 h rfl

/-- The two variables that the test captures. -/
def Caps (w : World) (A Fb : Nat) (addr : Int) : Prop := w.cell? ⟨A, 0, none⟩ = some (.int .i64 addr) ∧ w.cell? ⟨Fb, 0, none⟩ = some (.func (.func 39) #[] #[.pointer (some ⟨A, 0, none⟩)])
theorem Caps.kept {w w' : World} {A Fb : Nat} {addr : Int} (h : Caps w A Fb addr) (hA : w'.heap[A]? = w.heap[A]?) (hF : w'.heap[Fb]? = w.heap[Fb]?) : Caps w' A Fb addr := ⟨(World.cell?_of_block hA).trans h.1, (World.cell?_of_block hF).trans h.2⟩
theorem Caps.below {w w' : World} {A Fb : Nat} {addr : Int} (h : Caps w A Fb addr) (hb : Below w.heap.size w w') : Caps w' A Fb addr :=
  h.kept (hb.block A (World.block_lt_of_cell? w _ h.1)) (hb.block Fb (World.block_lt_of_cell? w _ h.2))

attribute [local go_sem ↓] loadM wpLoadM
set_option maxRecDepth 100000 in
set_option maxHeartbeats 2000000 in
theorem goes_any (w : World) (A Fb : Nat) (addr : Int) (p : PI) (h16 : p.1.length = 16) (hto : p.1[2]? = some (.int .i64 (toOf p))) (h : Caps w A Fb addr) :
    Calls Try.prog 55 #[.agg p.cells.toArray, .pointer (some ⟨Fb, 0, none⟩)] w fun e w' => e = .returned (.bool (decide (toOf p = addr))) ∧ Below w.heap.size w w' := by
  have hbl : Below w.heap.size w (w.alloc (.cells p.cells.toArray 85)) := (Below.refl _ _).alloc (Nat.le_refl _) _
  have hc := h.below hbl
  have hn := heap_alloc_new w (.cells p.cells.toArray 85)
  have hmt := there_msg hn (o := 0) h16 (fun j u hj => by
    have e : p.cells.toArray[0 + j]? = p.cells[j]? := by simp
    rw [e, PI.cells, List.getElem?_append_left (List.getElem?_eq_some_iff.1 hj).1]; exact hj)
  have hcall := test_list _ A addr p h16 hto hc.1
  have m1 := hmt.1
  have m2 := hmt.2
  have f2 := hc.2
  obtain ⟨cs, hcs⟩ : ∃ cs, cs = p.cells.toArray := ⟨_, rfl⟩
  rw [← hcs] at hbl hcall m1 m2 f2 ⊢
  have HC := Lib.hid hcall
  have HB := Lib.hid hbl
  clear hbl hc hn hmt hcall h hcs
  go_enter Try.func55, Try.ntmps55
  go_wp2_with (go_at_call 39; refine HC.out.mono ?_; rintro e w2 ⟨rfl, hb2⟩; have HB2 := Lib.hid hb2; clear hb2)
  go_ret
  exact ⟨rfl, HB.out.trans (HB2.out.mono HB.out.size)⟩

/-- The first that goes, if any does. -/
def IdxC (w : World) (l : List PI) (addr : Int) (e : Ending) (w' : World) : Prop := Below w.heap.size w w' ∧
  ((e = .returned (.int .i64 (-1)) ∧ ∀ p ∈ l, toOf p ≠ addr) ∨ ∃ k p, e = .returned (.int .i64 (k : Nat)) ∧ l[k]? = some p ∧ toOf p = addr ∧ ∀ q ∈ l.take k, toOf q ≠ addr)
set_option maxRecDepth 100000 in
set_option maxHeartbeats 2000000 in
theorem pidx_any (w : World) (l : List PI) (a : Option Addr) (cap n A Fb : Nat) (addr : Int) (hg : Good l) (ht : HasTo l) (hn : n = l.length) (hlen : n ≤ 1000000) (h : w.ownsRow 0 85 17 (.slice a n cap) n (pcells l)) (hc : Caps w A Fb addr) :
    Calls Try.prog 61 #[.slice a n cap, .func (.func 55) #[] #[.pointer (some ⟨Fb, 0, none⟩)]] w (IdxC w l addr) := by
  have HO := Lib.hid h
  have HG := Lib.hid (And.intro hg (And.intro ht (And.intro hc hn)))
  clear h hg ht hc hn
  go_enter Try.func61, Try.ntmps61
  go_wp2_with fail
  go_loopw [8] (fun i wr => ∃ k : Nat, k ≤ n ∧ i = .int .i64 k ∧ Hid (∀ q ∈ l.take k, toOf q ≠ addr) ∧ Below w.heap.size w wr) (fun i _ => n - (intOf i).toNat)
  case atStart => exact ⟨0, Nat.zero_le _, rfl, Lib.hid (by simp), Below.refl _ _⟩
  case round =>
    obtain ⟨k, hk, rfl, hno, hbr⟩ := hrel
    have HB := Lib.hid hbr
    clear hbr
    by_cases hlt : k < n
    · obtain ⟨p, hp⟩ : ∃ p, l[k]? = some p := ⟨l[k]'(by have := HG.out.2.2.2; omega), List.getElem?_eq_getElem _⟩
      have ho := HO.out
      obtain ⟨g, cap', e, _⟩ := ho.form (by omega)
      cases e
      have ho' := ho
      rw [HG.out.2.2.2] at ho'
      obtain ⟨r1, r2, r3, r4, r5⟩ := PRowAt.range HG.out.1 ho' hp
      have hrng : wr.rangeAt g (k * 17) p.cells := fun j u hj => (HB.out.cell (p := ⟨g, k * 17 + j, none⟩) r1).trans (r3 j u hj)
      have hcall := goes_any wr A Fb addr p (HG.out.1 p (List.mem_of_getElem? hp)).1 (HG.out.2.1 p (List.mem_of_getElem? hp)) (HG.out.2.2.1.below HB.out)
      have hkl : (k : Int) < (n : Int) := by omega
      obtain ⟨b, hb⟩ : ∃ b, b = decide (toOf p = addr) := ⟨_, rfl⟩
      rw [← hb] at hcall
      have HX := Lib.hid (And.intro hrng (And.intro r2 (And.intro hcall (And.intro hb hp))))
      clear ho ho' r1 r2 r3 r4 r5 hrng hcall hb hp
      cases b
      · go_wp2_with (first
          | (with_reducible refine wpList_load_mid rfl 85 (.tmp 14) rfl g (k * 17) rfl p.cells _ HX.out.1 Try.underlying85 rfl (by rw [HX.out.2.1]; kernel_rfl) ?_)
          | (go_at_call 55; refine HX.out.2.2.1.mono ?_; rintro e w2 ⟨rfl, hb2⟩; have HB2 := Lib.hid hb2; clear hb2))
        refine ⟨⟨k + 1, by omega, by go_num, Lib.hid fun q hq => ?_, HB.out.trans (HB2.out.mono HB.out.size)⟩, by simp [intOf]; omega⟩
        rw [List.take_add_one, HX.out.2.2.2.2] at hq
        rcases List.mem_append.1 hq with hq | hq
        · exact hno.out q hq
        · simp only [Option.toList_some, List.mem_singleton] at hq
          subst hq
          simpa using HX.out.2.2.2.1.symm
      · go_wp2_with (first
          | (with_reducible refine wpList_load_mid rfl 85 (.tmp 14) rfl g (k * 17) rfl p.cells _ HX.out.1 Try.underlying85 rfl (by rw [HX.out.2.1]; kernel_rfl) ?_)
          | (go_at_call 55; refine HX.out.2.2.1.mono ?_; rintro e w2 ⟨rfl, hb2⟩; have HB2 := Lib.hid hb2; clear hb2))
        go_ret
        exact ⟨HB.out.trans (HB2.out.mono HB.out.size), Or.inr ⟨k, p, rfl, HX.out.2.2.2.2, by simpa using HX.out.2.2.2.1.symm, hno.out⟩⟩
    · have hkl : ¬ (k : Int) < (n : Int) := by omega
      go_wp2_with fail
      go_ret
      refine ⟨HB.out, Or.inl ⟨rfl, fun q hq => hno.out q ?_⟩⟩
      rw [List.take_of_length_le (by have := HG.out.2.2.2; omega)]
      exact hq

end Go.Proofs.Ytklpafognbodhaa
