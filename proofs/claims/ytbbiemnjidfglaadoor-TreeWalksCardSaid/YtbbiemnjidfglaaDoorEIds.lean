/-
  Ids: the ids of all nodes, in the walk. No condition but that there are not too many nodes.
-/
import Derived.Test.YtbbiemnjidfglaaDoorERow
import Derived.Test.YtbbiemnjidfglaaDoorRIds
namespace Go.Proofs.YtbbiemnjidfglaaDoor
open Go.RowKit
set_option linter.unusedVariables false

theorem ids_cells : ∀ l : List Sp, l.flatMap idC = (idsL l).map intV
  | [] => rfl
  | x :: l => by rw [List.flatMap_cons, ids_cells l]; rfl
set_option maxRecDepth 100000 in
set_option maxHeartbeats 1000000 in
theorem ids_any (w : World) (S : Nat → Prop) (nv : Value) (t : Tr) (hS : ∀ x, S x → x < w.heap.size) (ht : TrAt w S nv t) (hsz : foSize t.kids + 1 ≤ 400000) : Calls Tryd.prog 12 #[nv] w (IntsC w (idsL (spF 1 (rootF t)))) := by
  obtain ⟨ka, cap, rfl, hcap, hk⟩ := ht
  obtain ⟨n, hn⟩ : ∃ n, n = foLen t.kids := ⟨_, rfl⟩
  rw [← hn]
  have hb : Below w.heap.size w (w.alloc (.cells #[.int .i64 t.id, .int .i64 t.kind, .string t.text, .slice ka n cap] 24)) := (Below.refl _ w).alloc (Nat.le_refl _) _
  have hc := rowI_any (w.alloc (.cells #[.int .i64 t.id, .int .i64 t.kind, .string t.text, .slice ka n cap] 24)) S (.agg #[.int .i64 t.id, .int .i64 t.kind, .string t.text, .slice ka n cap]) t (fun x hx => Nat.lt_of_lt_of_le (hS x hx) hb.size) ⟨ka, cap, by rw [hn], hcap, hk.below hb hS⟩ hsz
  have HC := Lib.hid (And.intro hc hb)
  clear hc hb hS hcap hk hn hsz
  go_enter Tryd.func12, Tryd.ntmps12
  go_wp2_with fail
  refine HC.out.1.mono ?_
  rintro e w2 ⟨v, rfl, ho, hb2⟩
  have HE := Lib.hid (And.intro ho hb2)
  clear ho hb2
  go_wp2_with fail
  go_ret
  refine ⟨_, rfl, ?_, HC.out.2.trans (HE.out.2.mono HC.out.2.size)⟩
  have h := owns_mono HE.out.1 HC.out.2.size
  rw [ids_cells] at h
  rw [show (idsL (spF 1 (rootF t))).length = (spF 1 (rootF t)).length by simp [idsL]]
  exact h
end Go.Proofs.YtbbiemnjidfglaaDoor
