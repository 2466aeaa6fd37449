/-
  The document's own Find. No condition but that there are not too many nodes.
-/
import Derived.Test.YtjppibomjnmjpaaRInts
import Derived.Test.YtjppibomjnmjpaaEFind
namespace Go.Proofs.Ytjppibomjnmjpaa
open Go.RowKit
set_option linter.unusedVariables false
set_option linter.unusedSimpArgs false

theorem results_cellT {P : Program} {fn : Func} {p u : Tmp} {ty : TypeId} (h : fn.results = #[.cell p ty, .tmp u]) (tmps : Array Value) (w : World) (g : Nat) (t : TypeId) (cs : Array Value) (fr : Nat × Nat) (d : TypeDesc) (x : Value)
    (hp : tmps.getD p undef = .pointer (some ⟨g, 0, none⟩)) (hg : w.heap[g]? = some (.cells cs t fr)) (hu : P.underlying ty = some d) (hd : (match d with | .struct _ | .array _ _ => true | _ => false) = true) (hi : (P.info? ty).map (·.size) = some cs.size) (hp2 : tmps.getD u undef = x) :
    (results fn tmps).run P w = .ok (.tuple #[.agg cs, x]) w := by
  have hp' : tmps[p]?.getD undef = .pointer (some ⟨g, 0, none⟩) := by simpa using hp
  have hp2' : tmps[u]?.getD undef = x := by simpa using hp2
  simp [results, h, hp', hp2', asAddr, run_loadVar_row w g t ty cs fr d hg hu hd hi]
theorem four_set {V : World} {R1 : Nat} {c0 c1 c2 c3 u0 u1 u2 u3 : Value} (h2 : V.heap[R1]? = some (.cells #[c0, c1, c2, c3] 24 (0, 0))) :
    ∃ V5, V5 = ((((V.setCell ⟨R1, 0, none⟩ u0).setCell ⟨R1, 1, none⟩ u1).setCell ⟨R1, 2, none⟩ u2).setCell ⟨R1, 3, none⟩ u3) ∧ V5.heap[R1]? = some (.cells #[u0, u1, u2, u3] 24 (0, 0)) ∧ (∀ y, y ≠ R1 → V5.heap[y]? = V.heap[y]?) ∧ V5.os = V.os ∧ V5.tape = V.tape ∧ V5.output = V.output ∧ V5.heap.size = V.heap.size := by
  have g1 := heap_setCell_same V R1 0 _ _ u0 h2
  have g2 := heap_setCell_same _ R1 1 _ _ u1 g1
  have g3 := heap_setCell_same _ R1 2 _ _ u2 g2
  have g4 := heap_setCell_same _ R1 3 _ _ u3 g3
  refine ⟨_, rfl, by simpa using g4, fun y hy => ?_, rfl, rfl, rfl, by simp [World.setCell]⟩
  rw [Below.heap_setCell _ _ _ _ hy, Below.heap_setCell _ _ _ _ hy, Below.heap_setCell _ _ _ _ hy, Below.heap_setCell _ _ _ _ hy]
def RFindC (w : World) (S : Nat → Prop) (t : Tr) (id : Int) (e : Ending) (w' : World) : Prop :=
  ∃ v, e = .returned (.tuple #[v, .bool (findS id (spF 1 (rootF t))).isSome]) ∧ TrAt w' S v (((findS id (spF 1 (rootF t))).map trOfS).getD zeroT) ∧ Below w.heap.size w w'
set_option maxRecDepth 100000 in
set_option maxHeartbeats 2000000 in
theorem rfind_any (w : World) (S : Nat → Prop) (v : Value) (t : Tr) (id : Int) (hsz : foSize t.kids + 1 ≤ 2000) (hS : ∀ k, S k → k < w.heap.size) (hv : TrAt w S v t) :
    Calls Try.prog 29 #[v, .int .i64 id] w (RFindC w S t id) := by
  obtain ⟨ka, cap, rfl, hcp, hk⟩ := hv
  obtain ⟨len, hl⟩ : ∃ len, len = foLen t.kids := ⟨_, rfl⟩
  rw [← hl]
  have HH := Lib.hid (And.intro hl (And.intro hcp (And.intro hk (And.intro hS hsz))))
  clear hl hcp hk hS hsz
  obtain ⟨o1, ho1⟩ : ∃ o1, o1 = Obj.cells #[.int .i64 t.id, .int .i64 t.kind, .string t.text, .slice ka len cap] 24 (0, 0) := ⟨_, rfl⟩
  obtain ⟨o2, ho2⟩ : ∃ o2, o2 = Obj.cells #[.int .i64 0, .int .i64 0, .string ⟨#[]⟩, .slice none 0 0] 24 (0, 0) := ⟨_, rfl⟩
  have hb : Below w.heap.size w ((w.alloc o1).alloc o2) := ((Below.refl _ w).alloc (Nat.le_refl _) _).alloc (by simp) _
  have hz : ((w.alloc o1).alloc o2).heap[w.heap.size + 1]? = some o2 := by have := heap_alloc_new (w.alloc o1) o2; rw [World.size_alloc] at this; exact this
  have hc := walkN_any 2000 (by omega) ((w.alloc o1).alloc o2) S (.agg #[.int .i64 t.id, .int .i64 t.kind, .string t.text, .slice ka len cap]) t HH.out.2.2.2.2 (by have := HH.out.2.2.2.2; omega) (fun k hk => Nat.lt_of_lt_of_le (HH.out.2.2.2.1 k hk) hb.size) ⟨ka, cap, by rw [HH.out.1], HH.out.2.1, HH.out.2.2.1.below hb HH.out.2.2.2.1⟩
  rw [ho1, ho2] at hc hb hz
  have HC := Lib.hid (And.intro hc (And.intro hb hz))
  clear hc hb hz ho1 ho2 o1 o2
  go_enter Try.func29, Try.ntmps29
  go_wp2_with fail
  refine HC.out.1.mono ?_
  rintro e w2 ⟨a, cap', rfl, ⟨hTl, xs, ho, hx⟩, hb2⟩
  have hB : Below w.heap.size w w2 := HC.out.2.1.trans (hb2.mono HC.out.2.1.size)
  have hz2 := (hb2.block _ (lt_of_heap HC.out.2.2)).trans HC.out.2.2
  have z0 : w2.cell? ⟨w.heap.size + 1, 0, none⟩ = some (.int .i64 0) := by rw [cell_of_row _ _ 0 _ _ _ hz2]; rfl
  have z1 : w2.cell? ⟨w.heap.size + 1, 1, none⟩ = some (.int .i64 0) := by rw [cell_of_row _ _ 1 _ _ _ hz2]; rfl
  have z2 : w2.cell? ⟨w.heap.size + 1, 2, none⟩ = some (.string ⟨#[]⟩) := by rw [cell_of_row _ _ 2 _ _ _ hz2]; rfl
  have z3 : w2.cell? ⟨w.heap.size + 1, 3, none⟩ = some (.slice none 0 0) := by rw [cell_of_row _ _ 3 _ _ _ hz2]; rfl
  have zf : ∀ j, w2.frozen? ⟨w.heap.size + 1, j, none⟩ = false := fun j => frozen_of_row _ _ j _ _ hz2
  obtain ⟨q, hq⟩ : ∃ q, q = foSize t.kids + 1 := ⟨_, rfl⟩
  rw [← hq] at ho hTl ⊢
  have hq5 : q ≤ 2000 := by rw [hq]; exact HH.out.2.2.2.2
  have HO := Lib.hid (And.intro ho (And.intro hx (And.intro hTl (And.intro hB hz2))))
  clear hb2 ho hx hTl HC hq hB hz2
  -- how it ends, with a node u0 .. u3 of the tree x
  have hend : ∀ (x : Tr) (kb : Option Addr) (kc m : Nat) (b : Bool), m = foLen x.kids → foLen x.kids ≤ kc → FoAt w2 S x.kids kb → (findS id (spF 1 (rootF t))).isSome = b → (((findS id (spF 1 (rootF t))).map trOfS).getD zeroT) = x → ∀ tmps : Array Value, tmps.getD 4 undef = .pointer (some ⟨w.heap.size + 1, 0, none⟩) → tmps.getD 5 undef = .bool b →
      bodyPost Try.prog Try.f29 (RFindC w S t id) .ret { tmps, defers := [] } ((((w2.setCell ⟨w.heap.size + 1, 0, none⟩ (.int .i64 x.id)).setCell ⟨w.heap.size + 1, 1, none⟩ (.int .i64 x.kind)).setCell ⟨w.heap.size + 1, 2, none⟩ (.string x.text)).setCell ⟨w.heap.size + 1, 3, none⟩ (.slice kb m kc)) := by
    intro x kb kc m b hm hc hf hs hx tmps t4 t5
    subst hm
    obtain ⟨V5, e5, r1, r2, r3, r4, r5, r6⟩ := four_set (u0 := .int .i64 x.id) (u1 := .int .i64 x.kind) (u2 := .string x.text) (u3 := .slice kb (foLen x.kids) kc) HO.out.2.2.2.2
    rw [← e5]
    have hB := HO.out.2.2.2.1
    refine bodyPost_ret (results_cellT rfl tmps V5 (w.heap.size + 1) 24 _ _ _ (.bool b) t4 r1 Try.underlying24 rfl (by kernel_rfl) t5) rfl ?_
    refine ⟨_, by rw [hs], ?_, r3.trans hB.os, r4.trans hB.tape, r5.trans hB.output, by rw [r6]; exact hB.size, fun k hk => (r2 k (by omega)).trans (hB.block k hk)⟩
    rw [hx]
    exact ⟨kb, kc, rfl, hc, hf.kept fun k hk => ⟨hk, r2 k (by have := HH.out.2.2.2.1 k hk; omega)⟩⟩
  have HEND := Lib.hid hend
  clear hend
  go_wp2_with fail
  go_loop [7] (fun i => ∃ k : Nat, k ≤ q ∧ i = .int .i64 (k : Int) ∧ Hid (∀ x ∈ (spF 1 (rootF t)).take k, x.2.1.1 ≠ id)) (fun i => q - (intOf i).toNat)
  case atStart => exact ⟨0, Nat.zero_le _, rfl, Lib.hid (by simp)⟩
  case round =>
    obtain ⟨k, hk, rfl, hnone⟩ := hrel
    by_cases hlt : k < q
    · obtain ⟨x, hx⟩ : ∃ x, (spF 1 (rootF t))[k]? = some x := ⟨_, List.getElem?_eq_getElem (by have := HO.out.2.2.1; rw [this]; exact hlt)⟩
      obtain ⟨s0, s1, s2, ⟨kb, kc, s3, hkc, hkb⟩, _⟩ := HO.out.2.1 k x hx
      have ho := HO.out.1
      have hgg : ∃ g, a = some ⟨g, 0, none⟩ := by
        rcases ho.2 with ⟨hv, h0⟩ | ⟨g, cap2, cur, hv, _⟩
        · omega
        · cases hv; exact ⟨g, rfl⟩
      obtain ⟨g, rfl⟩ := hgg
      have c0 : w2.cell? ⟨g, k * 5, none⟩ = some (.int .i64 x.2.1.1) := owns_cell ho rfl _ _ s0
      have c1 : w2.cell? ⟨g, k * 5 + 1, none⟩ = some (.int .i64 x.2.1.2.1) := owns_cell ho rfl _ _ s1
      have c2 : w2.cell? ⟨g, k * 5 + 2, none⟩ = some (.string x.2.1.2.2) := owns_cell ho rfl _ _ s2
      have c3 : w2.cell? ⟨g, k * 5 + 3, none⟩ = some (.slice kb (foLen x.2.2) kc) := owns_cell ho rfl _ _ s3
      obtain ⟨d, ⟨xi, xk, xt⟩, xf⟩ := x
      simp only at c0 c1 c2 c3 hkc hkb
      obtain ⟨m, hm⟩ : ∃ m, m = foLen xf := ⟨_, rfl⟩
      rw [← hm] at c3
      have HM := Lib.hid (And.intro hm (And.intro hkc (And.intro hkb hx)))
      have HLT := Lib.hid hlt
      have hkl : (k : Int) < (q : Int) := by omega
      clear ho s0 s1 s2 s3 hm hkc hkb hx hlt hk
      by_cases heq : xi = id
      · have hbq : (xi == id) = true := by simpa using heq
        have HQ := Lib.hid heq
        clear heq
        go_wp2_with fail
        have hs : findS id (spF 1 (rootF t)) = some (d, (xi, xk, xt), xf) := by
          have h1 : spF 1 (rootF t) = (spF 1 (rootF t)).take k ++ (d, (xi, xk, xt), xf) :: (spF 1 (rootF t)).drop (k + 1) := by
            have h2 := HM.out.2.2.2
            obtain ⟨hl, he⟩ := List.getElem?_eq_some_iff.1 h2
            rw [← he, List.getElem_cons_drop, List.take_append_drop]
          rw [h1]; exact findS_some hnone.out HQ.out
        exact HEND.out ⟨xi, xk, xt, xf⟩ kb kc m true HM.out.1 HM.out.2.1 HM.out.2.2.1 (by rw [hs]; rfl) (by rw [hs]; rfl) _ rfl rfl
      · have hbq : (xi == id) = false := by simpa using heq
        have HQ := Lib.hid heq
        clear heq
        go_wp2_with fail
        exact ⟨⟨k + 1, by have := HLT.out; omega, by go_num, Lib.hid (fun y hy => by
          rw [List.take_add_one, HM.out.2.2.2] at hy
          rcases List.mem_append.1 hy with hy | hy
          · exact hnone.out y hy
          · simp at hy; rw [hy]; exact HQ.out)⟩, by have := HLT.out; simp [intOf]; omega⟩
    · have hkq : k = q := by omega
      have HKQ := Lib.hid hkq
      have hkl : ¬ (k : Int) < (q : Int) := by omega
      clear hkq hk
      go_wp2_with fail
      have hs : findS id (spF 1 (rootF t)) = none := findS_none (by
        have := hnone.out
        rwa [List.take_of_length_le (by rw [HO.out.2.2.1, HKQ.out]; exact Nat.le_refl _)] at this)
      exact HEND.out zeroT none 0 0 false rfl (Nat.le_refl _) True.intro (by rw [hs]; rfl) (by rw [hs]; rfl) _ rfl rfl
end Go.Proofs.Ytjppibomjnmjpaa
