/-
  .
-/
import Derived.Test.YtchccbfljamjnaaGreatWTreeQm
import Derived.Test.YtchccbfljamjnaaGreatRWalkQm
import Derived.Test.YtchccbfljamjnaaGreatJPgQm
set_option maxRecDepth 100000
set_option maxHeartbeats 40000000
namespace Go.Proofs.YtchccbfljamjnaaGreat
open Go.RowKit Go.Shelf
set_option linter.unusedVariables false
set_option linter.unusedSimpArgs false
theorem Y3 {t : Tr} {c : Nat} (h : yt 1 0 t = some c) : yH t = true := by unfold yH; rw [h]; rfl
theorem Y2 {t : Tr} (h : yt 1 0 t = none) : yH t = false := by unfold yH; rw [h]; rfl
theorem jc (w : World) (S : Nat → Prop) (t : Tr) (ka : Option Addr) (kn kc : Nat) (hkn : kn = foLen t.kids) (hS : ∀ y, S y → y < w.heap.size) (hk : zi w S t.kids ka) :
 Calls Tryz.prog 69 #[.agg #[.int .i64 t.id, .int .i64 t.kind, .string t.text, .slice ka kn kc]] w (zL (yH t) w) := by
 have hmf : ∀ (fn : Fn) (first cap : Array Value) (w : World), (Instr.makeFunc fn first cap).run Tryz.prog w = .ok (.func fn first cap) w := fun _ _ _ _ => rfl
 obtain ⟨DV, hDV⟩ : ∃ DV, DV = Value.func (.func 114) #[] #[.pointer (some ⟨w.heap.size + 1, 0, none⟩), .pointer (some ⟨w.heap.size + 1 + 1, 0, none⟩)] := ⟨_, rfl⟩
 obtain ⟨W, hW⟩ : ∃ W, W = zl w [.cells #[.int .i64 t.id, .int .i64 t.kind, .string t.text, .slice ka kn kc] 35, .cells #[.int .i64 0] 3, .cells #[DV] 152] := ⟨_, rfl⟩
 have hb : Below w.heap.size w W := by rw [hW]; exact zh _ _
 have h0 : W.heap[w.heap.size]? = some (.cells #[.int .i64 t.id, .int .i64 t.kind, .string t.text, .slice ka kn kc] 35 (0, 0)) := by rw [hW]; exact zg _ _ 0 _ rfl
 have h1 : W.heap[w.heap.size + 1]? = some (.cells #[.int .i64 0] 3 (0, 0)) := by rw [hW]; exact zg _ _ 1 _ rfl
 have h2 : W.heap[w.heap.size + 1 + 1]? = some (.cells #[DV] 152 (0, 0)) := by rw [hW]; exact zg _ _ 2 _ rfl
 have hs := hb.size
 have hc := Jy (W := W) (NB := w.heap.size + 1) (FB := w.heap.size + 1 + 1) (S := S) (by rw [h2, hDV]) (by omega) (fun y hy => by have := hS y hy; exact ⟨by omega, by omega⟩) (zb t.kids + 1) W 0 1 t ka kn kc (by omega) (by omega) (by omega) hkn (hk.below hb hS) ⟨h1, fun _ _ _ => rfl, Nat.le_refl _, rfl, rfl, rfl⟩
 have HC := hH (aN hc (aN hb hW))
 have HDV := hH hDV
 have n0 : W.cell? ⟨w.heap.size, 0, none⟩ = some (.int .i64 t.id) := by rw [cell_of_row _ _ 0 _ _ _ h0]; rfl
 have n1 : W.cell? ⟨w.heap.size, 1, none⟩ = some (.int .i64 t.kind) := by rw [cell_of_row _ _ 1 _ _ _ h0]; rfl
 have n2 : W.cell? ⟨w.heap.size, 2, none⟩ = some (.string t.text) := by rw [cell_of_row _ _ 2 _ _ _ h0]; rfl
 have n3 : W.cell? ⟨w.heap.size, 3, none⟩ = some (.slice ka kn kc) := by rw [cell_of_row _ _ 3 _ _ _ h0]; rfl
 have n5 : W.cell? ⟨w.heap.size + 1 + 1, 0, none⟩ = some DV := by rw [cell_of_row _ _ 0 _ _ _ h2]; rfl
 clear hc hb hW h0 h1 h2 hs hDV hk hkn hS
 go_enter Tryz.func69, Tryz.ntmps69
 go_upto_region 4 with fail
 have hWW := HC.out.2.2
 rw [HDV.out] at hWW
 change Code.wp _ _ _ _ (zl w [.cells #[.int .i64 t.id, .int .i64 t.kind, .string t.text, .slice ka kn kc] 35, .cells #[.int .i64 0] 3, .cells #[Value.func (.func 114) #[] #[.pointer (some ⟨w.heap.size + 1, 0, none⟩), .pointer (some ⟨w.heap.size + 1 + 1, 0, none⟩)]] 152])
 rw [← hWW]
 clear hWW
 rw [HDV.out] at n5
 go_wp2_with fail
 refine HC.out.1.mono ?_
 intro e X hq
 unfold vE at hq
 cases hT : yt 1 0 t with
 | none =>
   rw [hT] at hq
   obtain ⟨rfl, c', hc'⟩ := hq
   have hbX : Below w.heap.size w X := ⟨hc'.os.trans HC.out.2.1.os, hc'.tape.trans HC.out.2.1.tape, hc'.output.trans HC.out.2.1.output, Nat.le_trans HC.out.2.1.size hc'.size, fun y hy => (hc'.below y (nL hy HC.out.2.1.size) (by omega)).trans (HC.out.2.1.block y hy)⟩
   exact ⟨rfl, zL.no (Y2 hT) hbX⟩
 | some c' =>
   rw [hT] at hq
   obtain ⟨rfl, hc'⟩ := hq
   have hbX : Below w.heap.size w X := ⟨hc'.os.trans HC.out.2.1.os, hc'.tape.trans HC.out.2.1.tape, hc'.output.trans HC.out.2.1.output, Nat.le_trans HC.out.2.1.size hc'.size, fun y hy => (hc'.below y (nL hy HC.out.2.1.size) (by omega)).trans (HC.out.2.1.block y hy)⟩
   have HX := hH (zL.yes (Y3 hT) hbX)
   clear hT hc' hbX
   go_wp2_with fail
   go_end0
   exact HX.out
theorem YG (args : Array Value) (w : World) : (callFunc 68 args).run Tryz.prog w = .ok (.enter 68 args) w := by rfl
theorem Y6 (w : World) (S : Nat → Prop) (t : Tr) (ka : Option Addr) (kn kc b : Nat) (hkn : kn = foLen t.kids) (hS : ∀ y, S y → y < w.heap.size) (hk : zi w S t.kids ka) (hb : w.heap[b]? = some (.cells #[.int .i64 t.id, .int .i64 t.kind, .string t.text, .slice ka kn kc] 35 (0, 0))) :
 Calls Tryz.prog 68 #[.pointer (some ⟨b, 0, none⟩)] w (zL (yH t) w) := by
 have HC := hH (jc w S t ka kn kc hkn hS hk)
 have n0 : w.cell? ⟨b, 0, none⟩ = some (.int .i64 t.id) := by rw [cell_of_row _ _ 0 _ _ _ hb]; rfl
 have n1 : w.cell? ⟨b, 1, none⟩ = some (.int .i64 t.kind) := by rw [cell_of_row _ _ 1 _ _ _ hb]; rfl
 have n2 : w.cell? ⟨b, 2, none⟩ = some (.string t.text) := by rw [cell_of_row _ _ 2 _ _ _ hb]; rfl
 have n3 : w.cell? ⟨b, 3, none⟩ = some (.slice ka kn kc) := by rw [cell_of_row _ _ 3 _ _ _ hb]; rfl
 clear hkn hS hk hb
 obtain ⟨q, hq⟩ : ∃ q, q = yH t := ⟨_, rfl⟩
 rw [← hq] at HC ⊢
 clear hq
 cases q
 · go_enter Tryz.func68, Tryz.ntmps68
   go_wp2_with fail
   refine HC.out.mono ?_
   intro e w' hq; obtain ⟨rfl, hb'⟩ := hq.f
   exact ⟨rfl, zL.no rfl hb'⟩
 · go_enter Tryz.func68, Tryz.ntmps68
   go_wp2_with fail
   refine HC.out.mono ?_
   intro e w' hq; obtain ⟨rfl, hb'⟩ := hq.t
   have HB := hH hb'
   clear hq hb'
   go_wp2_with fail
   go_end0
   exact zL.yes rfl HB.out
theorem Jg (w : World) (S : Nat → Prop) (t : Tr) (ka : Option Addr) (kn kc : Nat) (hkn : kn = foLen t.kids) (hS : ∀ y, S y → y < w.heap.size) (hk : zi w S t.kids ka) :
 Calls Tryz.prog 29 #[.agg #[.int .i64 t.id, .int .i64 t.kind, .string t.text, .slice ka kn kc]] w fun e w' => e = .returned (.bool (yH t)) ∧ Below w.heap.size w w' := by
 have hmf : ∀ (fn : Fn) (first cap : Array Value) (w : World), (Instr.makeFunc fn first cap).run Tryz.prog w = .ok (.func fn first cap) w := fun _ _ _ _ => rfl
 obtain ⟨B, hB⟩ : ∃ B, B = w.alloc (.cells #[.int .i64 t.id, .int .i64 t.kind, .string t.text, .slice ka kn kc] 35) := ⟨_, rfl⟩
 have hb : Below w.heap.size w B := by rw [hB]; exact (Below.refl _ _).alloc (Nat.le_refl _) _
 have h1 := Y6 B S t ka kn kc w.heap.size hkn (fun y hy => nL (hS y hy) hb.size) (hk.below hb hS) (by rw [hB]; exact heap_alloc_new _ _)
 have HM := hH (Zg B 68 ⟨w.heap.size, 0, none⟩ (yH t) (Below B.heap.size B) YG h1)
 have HB := hH hb
 have HBE := hH hB
 clear hB hb h1 hkn hS hk
 go_enter Tryz.func29, Tryz.ntmps29
 go_upto_region 1 with fail
 change Code.wp _ _ _ _ (w.alloc (.cells #[.int .i64 t.id, .int .i64 t.kind, .string t.text, .slice ka kn kc] 35))
 rw [← HBE.out]
 go_wp2_with fail
 refine HM.out.mono ?_
 rintro e w' ⟨rfl, hb'⟩
 have HB' := hH (HB.out.trans (hb'.mono HB.out.size))
 clear hb'
 go_wp2_with fail
 go_ret
 exact ⟨rfl, HB'.out⟩
theorem zF (w : World) (n lo : Int) : Calls Tryz.prog 58 #[.int .i64 n, .int .i64 lo] w fun e w' => e = .returned (.bool (zu lo 1125899906842624 n)) ∧ w' = w := by
 by_cases h1 : lo ≤ n
 · by_cases h2 : n ≤ 1125899906842624
   · have HB := hH (show zu lo 1125899906842624 n = true by unfold zu; rw [decide_eq_true h1, decide_eq_true h2]; rfl)
     go_enter Tryz.func58, Tryz.ntmps58
     go_wp2_with fail
     go_ret
     exact ⟨by rw [HB.out]; rfl, rfl⟩
   · have HB := hH (show zu lo 1125899906842624 n = false by unfold zu; rw [decide_eq_false h2, Bool.and_false])
     go_enter Tryz.func58, Tryz.ntmps58
     go_wp2_with fail
     go_ret
     exact ⟨by rw [HB.out]; rfl, rfl⟩
 · have HB := hH (show zu lo 1125899906842624 n = false by unfold zu; rw [decide_eq_false h1, Bool.false_and])
   go_enter Tryz.func58, Tryz.ntmps58
   go_wp2_with fail
   go_ret
   exact ⟨by rw [HB.out]; rfl, rfl⟩
end Go.Proofs.YtchccbfljamjnaaGreat
