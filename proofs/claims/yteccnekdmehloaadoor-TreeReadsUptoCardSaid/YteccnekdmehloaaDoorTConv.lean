/-
  The program's Bytes and the document's: a tree as bytes. No condition but that they are not too many.
  Bytes that a call made, read as a text, now and later. No condition.
-/
import Derived.Test.YteccnekdmehloaaDoorTRead
import Derived.Test.YteccnekdmehloaaDoorCPutNode
namespace Go.Proofs.YteccnekdmehloaaDoor
open Go.RowKit
set_option linter.unusedVariables false
set_option linter.unusedSimpArgs false

set_option maxRecDepth 100000 in
theorem tbytes_any (w : World) (S : Nat → Prop) (nv : Value) (t : Tr) (hS : ∀ k, S k → k < w.heap.size) (hv : TrAt w S nv t) (hl : (encT t).length ≤ 100000000000) :
    Calls Tryd.prog 10 #[nv] w (NewB w (encT t)) := by
  obtain ⟨ka, cap, rfl, hcp, hk⟩ := hv
  have hb : Below w.heap.size w (w.alloc (.cells #[.int .i64 t.id, .int .i64 t.kind, .string t.text, .slice ka (foLen t.kids) cap] 25)) := (Below.refl _ _).alloc (Nat.le_refl _) _
  have hc := pnode (w.alloc (.cells #[.int .i64 t.id, .int .i64 t.kind, .string t.text, .slice ka (foLen t.kids) cap] 25)) S _ t none 0 0 [] (fun k hk => Nat.lt_of_lt_of_le (hS k hk) hb.size) ⟨ka, cap, rfl, hcp, hk.below hb hS⟩ rfl ⟨fun _ => rfl, fun _ e => by cases e⟩ (by simp only [List.length_nil]; omega)
  obtain ⟨len, hlen⟩ : ∃ len, len = foLen t.kids := ⟨_, rfl⟩
  rw [← hlen] at hb hc ⊢
  rw [List.nil_append] at hc
  have HC := Lib.hid (And.intro hc hb)
  clear hc hb hk hcp hlen hS hl
  go_enter Tryd.func10, Tryd.ntmps10
  go_wp2_with fail
  refine HC.out.1.mono ?_
  rintro e w2 ⟨a, n, c, rfl, h1, h2, h3⟩
  have H := Lib.hid (And.intro h1 (And.intro h2 (HC.out.2.trans (h3.mono HC.out.2.size))))
  clear h1 h2 h3
  go_wp2_with fail
  go_ret
  exact ⟨a, n, c, rfl, H.out.1, H.out.2.1, H.out.2.2⟩
set_option maxRecDepth 100000 in
theorem dbytes_any (w : World) (S : Nat → Prop) (nv : Value) (t : Tr) (hS : ∀ k, S k → k < w.heap.size) (hv : TrAt w S nv t) (hl : (encT t).length ≤ 100000000000) :
    Calls Tryd.prog 11 #[nv] w (NewB w (encT t)) := by
  obtain ⟨ka, cap, rfl, hcp, hk⟩ := hv
  have hb : Below w.heap.size w (w.alloc (.cells #[.int .i64 t.id, .int .i64 t.kind, .string t.text, .slice ka (foLen t.kids) cap] 25)) := (Below.refl _ _).alloc (Nat.le_refl _) _
  have hc := refNode_any (foSize t.kids + 1) (w.alloc (.cells #[.int .i64 t.id, .int .i64 t.kind, .string t.text, .slice ka (foLen t.kids) cap] 25)) S _ t none 0 0 [] (Nat.lt_succ_self _) (fun k hk => Nat.lt_of_lt_of_le (hS k hk) hb.size) ⟨ka, cap, rfl, hcp, hk.below hb hS⟩ rfl ⟨fun _ => rfl, fun _ e => by cases e⟩ (by simp only [List.length_nil]; omega)
  obtain ⟨len, hlen⟩ : ∃ len, len = foLen t.kids := ⟨_, rfl⟩
  rw [← hlen] at hb hc ⊢
  rw [List.nil_append] at hc
  have HC := Lib.hid (And.intro hc hb)
  clear hc hb hk hcp hlen hS hl
  go_enter Tryd.func11, Tryd.ntmps11
  go_wp2_with fail
  refine HC.out.1.mono ?_
  rintro e w2 ⟨a, n, c, rfl, h1, h2, h3⟩
  have H := Lib.hid (And.intro h1 (And.intro h2 (HC.out.2.trans (h3.mono HC.out.2.size))))
  clear h1 h2 h3
  go_wp2_with fail
  go_ret
  exact ⟨a, n, c, rfl, H.out.1, H.out.2.1, H.out.2.2⟩
end Go.Proofs.YteccnekdmehloaaDoor
namespace Go.Proofs.YteccnekdmehloaaDoor
open Go.RowKit
open Extern.Stop (cell)
set_option linter.unusedVariables false

theorem ByAt.conv {w : World} {a : Option Addr} {n cap : Nat} {bs : List UInt8} (h : ByAt w a bs) (hn : n = bs.length) : (convert 22 9 (.slice a n cap)).run Tryd.prog w = .ok (.string ⟨bs.toArray⟩) w := by
  subst hn
  cases a with
  | none =>
    have hb := h.1 rfl
    subst hb
    rw [run_convert_bytes_string w _ _ _ none _ cap Tryd.underlying22 Tryd.underlying5 Tryd.underlying9]
    simp [Conv.bytesToString]
    rfl
  | some ad =>
    exact run_convert_bytes_back w _ _ _ ad cap bs Tryd.underlying22 Tryd.underlying5 Tryd.underlying9 (fun j hj => h.2 ad rfl j _ (List.getElem?_eq_getElem hj))
end Go.Proofs.YteccnekdmehloaaDoor
