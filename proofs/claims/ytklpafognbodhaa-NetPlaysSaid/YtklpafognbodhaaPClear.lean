/-
  The program's net: its call Clear. No condition but that it lies where it is said to lie.
-/
import Derived.Test.YtklpafognbodhaaPDf
namespace Go.Proofs.Ytklpafognbodhaa
open Go.RowKit

theorem pdf_any (w : World) (l : List PI) (a : Option Addr) (cap A Fb : Nat) (addr : Int) (hg : Good l) (ht : HasTo l) (hlen : l.length ≤ 1000000) (h : w.ownsRow 0 85 17 (.slice a l.length cap) l.length (pcells l)) (hc : Caps w A Fb addr) (hA : (Value.slice a l.length cap).ownBlock ≠ some A) (hF : (Value.slice a l.length cap).ownBlock ≠ some Fb) :
    Calls Try.prog 54 #[.slice a l.length cap, .func (.func 55) #[] #[.pointer (some ⟨Fb, 0, none⟩)]] w (DfC w l (.slice a l.length cap) addr) := by
  by_cases hno : ∀ p ∈ l, toOf p ≠ addr
  · exact pdf_none w l a cap _ A Fb addr hg ht rfl hlen h hc hno
  · obtain ⟨k, p, hk1, hk2, hk3⟩ : ∃ k, ∃ p, l[k]? = some p ∧ toOf p = addr ∧ ∀ q ∈ l.take k, toOf q ≠ addr := by
      clear h hlen ht hg hA hF
      induction l with
      | nil => exact absurd (fun p hp => by simp at hp) hno
      | cons y l ih =>
        by_cases hy : toOf y = addr
        · exact ⟨0, y, rfl, hy, by simp⟩
        · obtain ⟨k, p, h1, h2, h3⟩ := ih (fun hall => hno fun p hp => by
            rcases List.mem_cons.1 hp with rfl | hp
            · exact hy
            · exact hall p hp)
          refine ⟨k + 1, p, by simpa using h1, h2, fun q hq => ?_⟩
          rw [List.take_succ_cons] at hq
          rcases List.mem_cons.1 hq with rfl | hq
          · exact hy
          · exact h3 q hq
    have hlt := (List.getElem?_eq_some_iff.1 hk1).1
    obtain ⟨g, cap', e, _⟩ := h.form (by omega)
    cases e
    exact pdf_some w l g cap _ A Fb k addr p hg ht rfl hlen h hc (fun e => hA (by rw [e]; rfl)) (fun e => hF (by rw [e]; rfl)) hk1 hk2 hk3

theorem pdrop_end {w W0 w3 : World} {S : Nat → Prop} {nb : Nat} {l : List PI} {v : Value} {addr : Int} {e : Ending} (h0 : ∀ y, S y → y < w.heap.size) (h1 : S nb) (hg : Good l) (h2 : w.heap[nb]? = some (.cells #[v] 59 (0, 0))) (h4 : ∀ g, v.ownBlock = some g → S g) (hne : v.ownBlock ≠ some nb)
    (hb : Below w.heap.size w W0) (hd : DfC W0 l v addr e w3) :
    ∃ a' c', e = .returned (.slice a' (stays addr l).length c') ∧ w3.cell? ⟨nb, 0, none⟩ = some v ∧ w3.frozen? ⟨nb, 0, none⟩ = false ∧ (w3.setCell ⟨nb, 0, none⟩ (.slice a' (stays addr l).length c')).cell? ⟨nb, 0, none⟩ = some (.slice a' (stays addr l).length c') ∧
      ∀ E, PC w S nb (stays addr l) E (.returned E) (w3.setCell ⟨nb, 0, none⟩ (.slice a' (stays addr l).length c')) := by
  obtain ⟨v', rfl, hown, hob, ht, a', c', rfl⟩ := hd
  have hnb := h0 nb h1
  have hs := hb.size
  have r2 : w3.heap[nb]? = some (.cells #[v] 59 (0, 0)) := (ht.block nb (by omega) hne).trans ((hb.block nb hnb).trans h2)
  have r3 := heap_setCell_same w3 nb 0 _ _ (.slice a' (stays addr l).length c') r2
  have hsz : (w3.setCell ⟨nb, 0, none⟩ (.slice a' (stays addr l).length c')).heap.size = w3.heap.size := by simp [World.setCell]
  have hts := ht.size
  refine ⟨a', c', rfl, by rw [cell_of_row _ _ 0 _ _ _ r2]; rfl, frozen_of_row _ _ _ _ _ r2, by rw [cell_of_row _ _ 0 _ _ _ r3]; rfl, fun E => ⟨rfl, S, ⟨fun y hy => ?_, h1, hg.sub (fun p hp => (List.mem_filter.1 hp).1), _, by rw [r3]; rfl, ?_, fun g hgo => h4 g (by rw [← hob]; exact hgo)⟩, ⟨ht.os.trans hb.os, ht.tape.trans hb.tape, ht.output.trans hb.output, by rw [hsz]; omega, fun y hy hn => ?_⟩, fun _ hy => Or.inl hy⟩⟩
  · have := h0 y hy; rw [hsz]; omega
  · exact owns_kept hown (fun g cur hgc hgo => Below.heap_setCell _ _ _ _ (fun e => hne (by rw [← hob, hgo, e])))
  · rw [Below.heap_setCell _ _ _ _ (fun e => hn (by rw [e]; exact h1)), ht.block y (by omega) (fun e => hn (h4 y e)), hb.block y hy]

set_option maxRecDepth 100000 in
set_option maxHeartbeats 2000000 in
theorem pdrop_any (w : World) (S : Nat → Prop) (nb : Nat) (l : List PI) (A : Nat) (addr : Int) (h : PRowAt w S nb l) (ht : HasTo l) (hlen : l.length ≤ 1000000) (hAc : w.cell? ⟨A, 0, none⟩ = some (.int .i64 addr)) (hAS : ¬ S A) :
    Calls Try.prog 38 #[.pointer (some ⟨nb, 0, none⟩), .func (.func 39) #[] #[.pointer (some ⟨A, 0, none⟩)]] w (PC w S nb (stays addr l) (.int .i64 ((l.length : Int) - (stays addr l).length))) := by
  obtain ⟨h0, h1, hg, v, h2, h3, h4⟩ := h
  obtain ⟨a, cap, rfl⟩ := owns_slice h3
  have hne : (Value.slice a l.length cap).ownBlock ≠ some nb := owned_ne h3 h2 (by decide)
  obtain ⟨W0, hW0⟩ : ∃ W0, W0 = w.alloc (.cells #[.func (.func 39) #[] #[.pointer (some ⟨A, 0, none⟩)]] 76) := ⟨_, rfl⟩
  have hb : Below w.heap.size w W0 := by rw [hW0]; exact (Below.refl _ _).alloc (Nat.le_refl _) _
  have hnew : W0.heap[w.heap.size]? = some (.cells #[.func (.func 39) #[] #[.pointer (some ⟨A, 0, none⟩)]] 76 (0, 0)) := by rw [hW0]; exact heap_alloc_new w _
  have hAl := World.block_lt_of_cell? w _ hAc
  have hcaps : Caps W0 A w.heap.size addr := ⟨(World.cell?_of_block (hb.block A hAl)).trans hAc, by rw [cell_of_row _ _ 0 _ _ _ hnew]; rfl⟩
  have hown : W0.ownsRow 0 85 17 (.slice a l.length cap) l.length (pcells l) := owns_kept h3 (fun y cur hy _ => hb.block y (lt_of_some hy))
  have hdf := pdf_any W0 l a cap A w.heap.size addr hg ht hlen hown hcaps (fun e => hAS (h4 A e)) (fun e => by have := (owns_bounds h3 e).2; omega)
  have c0 : W0.cell? ⟨nb, 0, none⟩ = some (.slice a l.length cap) := (World.cell?_of_block (hb.block nb (h0 nb h1))).trans (by rw [cell_of_row w _ 0 _ _ _ h2]; rfl)
  have hend := fun (w3 : World) (e : Ending) hd => pdrop_end (w3 := w3) (addr := addr) (e := e) h0 h1 hg h2 h4 hne hb hd
  obtain ⟨len, hl⟩ : ∃ len, len = l.length := ⟨_, rfl⟩
  obtain ⟨m, hm⟩ : ∃ m, m = (stays addr l).length := ⟨_, rfl⟩
  have hml : m ≤ len := by rw [hm, hl]; exact stays_length addr l
  rw [← hl] at hdf c0 hlen
  rw [← hm] at hend
  rw [← hm, ← hl]
  rw [← hl] at hend
  have HX := Lib.hid (And.intro hdf hend)
  clear h0 h1 hg h2 h3 h4 hne hb hnew hAl hcaps hown hdf hend hl hm hAc hAS ht
  subst hW0
  have hmf : ∀ (fn : Fn) (first cap : Array Value) (w : World), (Instr.makeFunc fn first cap).run Try.prog w = .ok (.func fn first cap) w := fun _ _ _ _ => rfl
  go_enter Try.func38, Try.ntmps38
  go_wp2_with (go_at_call 54; refine HX.out.1.mono ?_; rintro e w3 hd; obtain ⟨a', c', rfl, d1, d2, d3, d4⟩ := HX.out.2 w3 e hd; have HZ := Lib.hid d4; clear d4 hd)
  go_ret
  exact HZ.out _

theorem stays_sub (addr : Int) (l : List PI) (h : HasTo l) : HasTo (stays addr l) := fun p hp => h p (List.mem_filter.1 hp).1
set_option maxRecDepth 100000 in
set_option maxHeartbeats 2000000 in
theorem nclear_any (w : World) (S : Nat → Prop) (nb : Nat) (l : List PI) (addr : Int) (h : PRowAt w S nb l) (ht : HasTo l) (hlen : l.length ≤ 1000000) :
    Calls Try.prog 15 #[.pointer (some ⟨nb, 0, none⟩), .int .i64 addr] w (PC w S nb (stays addr l) (.int .i64 ((l.length : Int) - (stays addr l).length))) := by
  obtain ⟨W0, hW0⟩ : ∃ W0, W0 = w.alloc (.cells #[.int .i64 addr] 3) := ⟨_, rfl⟩
  have hb : Below w.heap.size w W0 := by rw [hW0]; exact (Below.refl _ _).alloc (Nat.le_refl _) _
  have hnew : W0.heap[w.heap.size]? = some (.cells #[.int .i64 addr] 3 (0, 0)) := by rw [hW0]; exact heap_alloc_new w _
  have hcall := pdrop_any W0 S nb l w.heap.size addr (h.below hb) ht hlen (by rw [cell_of_row _ _ 0 _ _ _ hnew]; rfl) (fun hs => by have := h.1 _ hs; omega)
  have hcall2 : Calls Try.prog 38 #[.pointer (some ⟨nb, 0, none⟩), .func (.func 39) #[] #[.pointer (some ⟨w.heap.size, 0, none⟩)]] W0 (PC w S nb (stays addr l) (.int .i64 ((l.length : Int) - (stays addr l).length))) := hcall.mono fun e w' ⟨he, S', p1, p2, p3⟩ =>
    ⟨he, S', p1, (Below.touched hb S).trans p2 (fun x hx => Or.inl hx), fun x hx => (p3 x hx).imp id (fun h => Nat.le_trans hb.size h)⟩
  obtain ⟨E, hE⟩ : ∃ E, E = (l.length : Int) - (stays addr l).length := ⟨_, rfl⟩
  rw [← hE] at hcall2 ⊢
  have HX := Lib.hid hcall2
  clear h ht hlen hb hnew hcall hcall2 hE
  subst hW0
  have hmf : ∀ (fn : Fn) (first cap : Array Value) (w : World), (Instr.makeFunc fn first cap).run Try.prog w = .ok (.func fn first cap) w := fun _ _ _ _ => rfl
  go_enter Try.func15, Try.ntmps15
  go_wp2_with (go_at_call 38; refine HX.out.mono ?_; rintro e w3 hp; obtain rfl := (hp.1))
  go_ret
  exact hp

end Go.Proofs.Ytklpafognbodhaa
