/-
  Walk, and what it hands back: a copy of each node. No condition but that there are at most 5000 nodes.
-/
import Derived.Test.YteccnekdmehloaaDoorECopyW
namespace Go.Proofs.YteccnekdmehloaaDoor
open Go.RowKit Go.Shelf
attribute [local go_sem] Oper.semAt_some
set_option linter.unusedVariables false

/-- Walk answers a function that bears a tree of its own. -/
def WalkAt (W : World) (SS : Nat → Prop) (t : Tr) (HB BB : Nat) : Prop := W.heap[BB]? = some (.cells #[.bool false] 4 (0, 0)) ∧ ∃ ka kc, W.heap[HB]? = some (.cells #[.int .i64 t.id, .int .i64 t.kind, .string t.text, .slice ka (foLen t.kids) kc] 25 (0, 0)) ∧ foLen t.kids ≤ kc ∧ FoAt W SS t.kids ka
def WalkC (w : World) (S : Nat → Prop) (t : Tr) (e : Ending) (w' : World) : Prop := ∃ HB BB, e = .returned (.func (.func 41) #[] #[.pointer (some ⟨HB, 0, none⟩), .pointer (some ⟨BB, 0, none⟩)]) ∧ Below w.heap.size w w' ∧ w.heap.size ≤ HB ∧ w.heap.size ≤ BB ∧ WalkAt w' (fun x => CellsB w' x ∧ (S x ∨ w.heap.size ≤ x)) t HB BB
theorem walk_end {w w0 w1 w2 : World} {S : Nat → Prop} {t : Tr} {kb : Option Addr} {kc m : Nat} (h0 : Below w.heap.size w w0) (h1 : Below w0.heap.size w0 w1) (h2 : Below (w1.alloc (.cells #[.int .i64 t.id, .int .i64 t.kind, .string t.text, .slice kb m kc] 25)).heap.size (w1.alloc (.cells #[.int .i64 t.id, .int .i64 t.kind, .string t.text, .slice kb m kc] 25)) w2)
    (hk : FoAt w1 (fun x => CellsB w1 x ∧ (S x ∨ w0.heap.size ≤ x)) t.kids kb) (hc : foLen t.kids ≤ kc) (hm : m = foLen t.kids) (hS : ∀ x, S x → CellsB w x) :
    WalkC w S t (.returned (.func (.func 41) #[] #[.pointer (some ⟨w1.heap.size, 0, none⟩), .pointer (some ⟨w2.heap.size, 0, none⟩)])) (w2.alloc (.cells #[.bool false] 4)) := by
  subst hm
  have s0 := h0.size
  have s1 := h1.size
  have s2 := h2.size
  rw [World.size_alloc] at s2
  have hb : ∀ x, x < w1.heap.size → (w2.alloc (.cells #[.bool false] 4)).heap[x]? = w1.heap[x]? := fun x hx => by
    rw [Below.heap_alloc _ _ _ (by omega), h2.block x (by simp; omega), Below.heap_alloc _ _ _ hx]
  refine ⟨w1.heap.size, w2.heap.size, rfl, (h0.trans (h1.mono s0)).trans ⟨h2.os, h2.tape, h2.output, by rw [World.size_alloc]; omega, fun x hx => hb x (by omega)⟩, by omega, by omega, heap_alloc_new w2 _, kb, kc, ?_, hc, hk.kept fun x hx => ?_⟩
  · rw [Below.heap_alloc _ _ _ (by omega), h2.block _ (by simp)]; exact heap_alloc_new w1 _
  · obtain ⟨⟨cs, ty, fr, hcx⟩, hs⟩ := hx
    have := lt_of_heap hcx
    exact ⟨⟨⟨cs, ty, fr, (hb x this).trans hcx⟩, hs.imp id (fun h => by omega)⟩, hb x this⟩
set_option maxRecDepth 100000 in
set_option maxHeartbeats 2000000 in
theorem walk_any (w : World) (S : Nat → Prop) (nv : Value) (t : Tr) (hS : ∀ x, S x → CellsB w x) (ht : TrAt w S nv t) (hsz : foSize t.kids + 1 ≤ 5000) : Calls Tryd.prog 18 #[nv] w (WalkC w S t) := by
  have ht0 := ht
  obtain ⟨ka, cap, rfl, hcap, hk⟩ := ht
  obtain ⟨n, hn⟩ : ∃ n, n = foLen t.kids := ⟨_, rfl⟩
  rw [← hn] at ht0 ⊢
  have hmf : ∀ (fn : Fn) (first cap : Array Value) (w : World), (Instr.makeFunc fn first cap).run Tryd.prog w = .ok (.func fn first cap) w := fun _ _ _ _ => rfl
  have hb1 : Below w.heap.size w (w.alloc (.cells #[.int .i64 t.id, .int .i64 t.kind, .string t.text, .slice ka n cap] 25)) := (Below.refl _ _).alloc (Nat.le_refl _) _
  have hc1 := copy_any (w.alloc (.cells #[.int .i64 t.id, .int .i64 t.kind, .string t.text, .slice ka n cap] 25)) S _ t (fun x hx => by
    obtain ⟨cs, ty, fr, hc⟩ := hS x hx
    exact ⟨cs, ty, fr, (hb1.block x (lt_of_heap hc)).trans hc⟩) (ht0.kept fun x hx => ⟨hx, hb1.block x (hS x hx).lt⟩) (by omega)
  have HC := Lib.hid (And.intro hc1 (And.intro hb1 (And.intro hsz hS)))
  clear hc1 hb1 ht0 hk hcap hn hS
  go_enter Tryd.func18, Tryd.ntmps18
  go_wp2_with fail
  refine HC.out.1.mono ?_
  rintro e w1 ⟨v, rfl, ⟨kb, kc, rfl, hkc, hkb⟩, hbw⟩
  obtain ⟨m, hm⟩ : ∃ m, m = foLen t.kids := ⟨_, rfl⟩
  rw [← hm]
  have hb2 : Below w1.heap.size w1 (w1.alloc (.cells #[.int .i64 t.id, .int .i64 t.kind, .string t.text, .slice kb m kc] 25)) := (Below.refl _ _).alloc (Nat.le_refl _) _
  have hlt : ∀ x, (CellsB w1 x ∧ (S x ∨ (w.alloc (.cells #[.int .i64 t.id, .int .i64 t.kind, .string t.text, .slice ka n cap] 25)).heap.size ≤ x)) → x < w1.heap.size := fun x hx => hx.1.lt
  have htold := told_any (w1.alloc (.cells #[.int .i64 t.id, .int .i64 t.kind, .string t.text, .slice kb m kc] 25)) (fun x => CellsB w1 x ∧ (S x ∨ (w.alloc (.cells #[.int .i64 t.id, .int .i64 t.kind, .string t.text, .slice ka n cap] 25)).heap.size ≤ x)) (.agg #[.int .i64 t.id, .int .i64 t.kind, .string t.text, .slice kb m kc]) t (fun x hx => by have := hlt x hx; simp; omega) ⟨kb, kc, by rw [hm], hkc, hkb.kept fun x hx => ⟨hx, hb2.block x (hlt x hx)⟩⟩ (by have := HC.out.2.2.1; omega)
  obtain ⟨sm, hsm⟩ : ∃ sm : Int, sm = sumI (spF 1 (rootF t)) := ⟨_, rfl⟩
  have hsmall : sm ≤ 38347922 := by
    rw [hsm]
    have h1 := sumI_le (spF 1 (rootF t)) 5000 (fun x hx => by
      have := spF_depth 1 (rootF t) x hx
      rw [rootF_size] at this; have := HC.out.2.2.1; omega)
    rw [spF_length, rootF_size] at h1
    have h2 : 5000 * (foSize t.kids + 1) ≤ 5000 * 5000 := Nat.mul_le_mul (Nat.le_refl _) HC.out.2.2.1
    unfold sumI; omega
  rw [← hsm] at htold
  have HT := Lib.hid htold
  have HB := Lib.hid (And.intro hkb (And.intro hkc (And.intro hbw (And.intro hb2 hm))))
  clear hkb hkc hbw hb2 htold hlt hm hsm
  go_wp2_with fail
  refine HT.out.mono ?_
  rintro e w2 ⟨rfl, hb3⟩
  have h0 := hb3
  have HB3 := Lib.hid hb3
  clear hb3 h0
  go_wp2_with fail
  have hdec : decide (38347922 < sm) = false := by simpa using hsmall
  rw [hdec]
  go_ret
  exact walk_end HC.out.2.1 HB.out.2.2.1 HB3.out HB.out.1 HB.out.2.1 HB.out.2.2.2.2 HC.out.2.2.2
end Go.Proofs.YteccnekdmehloaaDoor
