/-
  put: a tree with another in the place of the k-th node of its walk. No condition but that there are not too many nodes.
-/
import Derived.Test.YtmfpilacmafglaaVFault
import Derived.Test.YtmfpilacmafglaaEHeld
namespace Go.Proofs.Ytmfpilacmafglaa
open Go.RowKit Go.Shelf
attribute [local go_sem] Oper.semAt_some
set_option linter.unusedVariables false
set_option linter.unusedSimpArgs false

/-- Plainly: row by row, with the place that was reached. -/
def putFo (x : Tr) (k : Nat) : Nat → Fo → Fo × Nat
  | n, .nil => (.nil, n)
  | n, .node _ _ key l r =>
    let p : Tr × Nat := if n = k then (x, n + 1) else (⟨key.1, key.2.1, key.2.2, (putFo x k (n + 1) l).1⟩, (putFo x k (n + 1) l).2)
    (.node 0 0 (p.1.id, p.1.kind, p.1.text) p.1.kids (putFo x k p.2 r).1, (putFo x k p.2 r).2)
def putT (x : Tr) (k n : Nat) (t : Tr) : Tr × Nat := if n = k then (x, n + 1) else (⟨t.id, t.kind, t.text, (putFo x k (n + 1) t.kids).1⟩, (putFo x k (n + 1) t.kids).2)
theorem putFo_node (x : Tr) (k n b o : Nat) (key : Int × Int × ByteArray) (l r : Fo) : putFo x k n (.node b o key l r) = (.node 0 0 ((putT x k n ⟨key.1, key.2.1, key.2.2, l⟩).1.id, (putT x k n ⟨key.1, key.2.1, key.2.2, l⟩).1.kind, (putT x k n ⟨key.1, key.2.1, key.2.2, l⟩).1.text) (putT x k n ⟨key.1, key.2.1, key.2.2, l⟩).1.kids (putFo x k (putT x k n ⟨key.1, key.2.1, key.2.2, l⟩).2 r).1, (putFo x k (putT x k n ⟨key.1, key.2.1, key.2.2, l⟩).2 r).2) := rfl
theorem putFo_snoc (x : Tr) (k : Nat) : ∀ (f : Fo) (n b o : Nat) (key : Int × Int × ByteArray) (l : Fo), putFo x k n (foSnoc f b o key l) =
    (foSnoc (putFo x k n f).1 0 0 ((putT x k (putFo x k n f).2 ⟨key.1, key.2.1, key.2.2, l⟩).1.id, (putT x k (putFo x k n f).2 ⟨key.1, key.2.1, key.2.2, l⟩).1.kind, (putT x k (putFo x k n f).2 ⟨key.1, key.2.1, key.2.2, l⟩).1.text) (putT x k (putFo x k n f).2 ⟨key.1, key.2.1, key.2.2, l⟩).1.kids, (putT x k (putFo x k n f).2 ⟨key.1, key.2.1, key.2.2, l⟩).2)
  | .nil, _, _, _, _, _ => rfl
  | .node b' o' key' l' r, n, b, o, key, l => by
    rw [foSnoc, putFo_node, putFo_snoc x k r, putFo_node]
    rfl
theorem putFo_le (x : Tr) (k : Nat) : ∀ (f : Fo) (n : Nat), (putFo x k n f).2 ≤ n + foSize f
  | .nil, n => Nat.le_refl _
  | .node _ _ key l r, n => by
    rw [putFo_node]
    have h1 := putFo_le x k r (putT x k n ⟨key.1, key.2.1, key.2.2, l⟩).2
    have h2 : (putT x k n ⟨key.1, key.2.1, key.2.2, l⟩).2 ≤ n + (foSize l + 1) := by
      unfold putT; split
      · show n + 1 ≤ _; omega
      · have := putFo_le x k l (n + 1); show (putFo x k (n + 1) l).2 ≤ _; omega
    simp only [foSize]; omega
theorem putT_le (x : Tr) (k n : Nat) (t : Tr) : (putT x k n t).2 ≤ n + foSize t.kids + 1 := by
  unfold putT; split
  · show n + 1 ≤ _; omega
  · have := putFo_le x k t.kids (n + 1); show (putFo x k (n + 1) t.kids).2 ≤ _; omega
theorem putFo_len (x : Tr) (k : Nat) : ∀ (f : Fo) (n : Nat), foLen (putFo x k n f).1 = foLen f
  | .nil, _ => rfl
  | .node _ _ key l r, n => by rw [putFo_node]; simp [foLen, putFo_len x k r]

/-- Four cells of a node's block, stored one behind the other. -/
theorem set4 {w : World} {b : Nat} {c0 c1 c2 c3 : Value} {T : TypeId} (v0 v1 v2 v3 : Value) (h : w.heap[b]? = some (.cells #[c0, c1, c2, c3] T (0, 0))) :
    ((((w.setCell ⟨b, 0, none⟩ v0).setCell ⟨b, 1, none⟩ v1).setCell ⟨b, 2, none⟩ v2).setCell ⟨b, 3, none⟩ v3).heap[b]? = some (.cells #[v0, v1, v2, v3] T (0, 0)) ∧
    (∀ y, y ≠ b → ((((w.setCell ⟨b, 0, none⟩ v0).setCell ⟨b, 1, none⟩ v1).setCell ⟨b, 2, none⟩ v2).setCell ⟨b, 3, none⟩ v3).heap[y]? = w.heap[y]?) ∧
    w.cell? ⟨b, 0, none⟩ = some c0 ∧ w.frozen? ⟨b, 0, none⟩ = false ∧
    (w.setCell ⟨b, 0, none⟩ v0).cell? ⟨b, 1, none⟩ = some c1 ∧ (w.setCell ⟨b, 0, none⟩ v0).frozen? ⟨b, 1, none⟩ = false ∧
    ((w.setCell ⟨b, 0, none⟩ v0).setCell ⟨b, 1, none⟩ v1).cell? ⟨b, 2, none⟩ = some c2 ∧ ((w.setCell ⟨b, 0, none⟩ v0).setCell ⟨b, 1, none⟩ v1).frozen? ⟨b, 2, none⟩ = false ∧
    (((w.setCell ⟨b, 0, none⟩ v0).setCell ⟨b, 1, none⟩ v1).setCell ⟨b, 2, none⟩ v2).cell? ⟨b, 3, none⟩ = some c3 ∧ (((w.setCell ⟨b, 0, none⟩ v0).setCell ⟨b, 1, none⟩ v1).setCell ⟨b, 2, none⟩ v2).frozen? ⟨b, 3, none⟩ = false := by
  have h1 : (w.setCell ⟨b, 0, none⟩ v0).heap[b]? = some (.cells #[v0, c1, c2, c3] T (0, 0)) := by rw [heap_setCell_same w b 0 _ _ _ h]; simp
  have h2 : ((w.setCell ⟨b, 0, none⟩ v0).setCell ⟨b, 1, none⟩ v1).heap[b]? = some (.cells #[v0, v1, c2, c3] T (0, 0)) := by rw [heap_setCell_same _ b 1 _ _ _ h1]; simp
  have h3 : (((w.setCell ⟨b, 0, none⟩ v0).setCell ⟨b, 1, none⟩ v1).setCell ⟨b, 2, none⟩ v2).heap[b]? = some (.cells #[v0, v1, v2, c3] T (0, 0)) := by rw [heap_setCell_same _ b 2 _ _ _ h2]; simp
  refine ⟨by rw [heap_setCell_same _ b 3 _ _ _ h3]; simp, fun y hy => ?_, by rw [cell_of_row _ _ 0 _ _ _ h]; rfl, frozen_of_row _ _ 0 _ _ h, by rw [cell_of_row _ _ 1 _ _ _ h1]; rfl, frozen_of_row _ _ 1 _ _ h1, by rw [cell_of_row _ _ 2 _ _ _ h2]; rfl, frozen_of_row _ _ 2 _ _ h2, by rw [cell_of_row _ _ 3 _ _ _ h3]; rfl, frozen_of_row _ _ 3 _ _ h3⟩
  rw [Below.heap_setCell _ _ _ _ hy, Below.heap_setCell _ _ _ _ hy, Below.heap_setCell _ _ _ _ hy, Below.heap_setCell _ _ _ _ hy]
theorem touched4 {w V : World} {S : Nat → Prop} (h : Touched w V S) (b : Nat) (v0 v1 v2 v3 : Value) (hb : S b ∨ w.heap.size ≤ b) : Touched w ((((V.setCell ⟨b, 0, none⟩ v0).setCell ⟨b, 1, none⟩ v1).setCell ⟨b, 2, none⟩ v2).setCell ⟨b, 3, none⟩ v3) S :=
  ⟨h.os, h.tape, h.output, by simp [World.setCell]; exact h.size, fun y hy hn => by
    have hyb : y ≠ b := fun e => by rcases hb with hb | hb; exact hn (by rw [e]; exact hb); omega
    rw [Below.heap_setCell _ _ _ _ hyb, Below.heap_setCell _ _ _ _ hyb, Below.heap_setCell _ _ _ _ hyb, Below.heap_setCell _ _ _ _ hyb]; exact h.block y hy hn⟩
theorem results_cellW7 {P : Program} {fn : Func} {p : Tmp} {ty : TypeId} (h : fn.results = #[.cell p ty]) (tmps : Array Value) (w : World) (g : Nat) (t : TypeId) (cs : Array Value) (fr : Nat × Nat) (d : TypeDesc)
    (hp : tmps.getD p undef = .pointer (some ⟨g, 0, none⟩)) (hg : w.heap[g]? = some (.cells cs t fr)) (hu : P.underlying ty = some d) (hd : (match d with | .struct _ | .array _ _ => true | _ => false) = true) (hi : (P.info? ty).map (·.size) = some cs.size) :
    (results fn tmps).run P w = .ok (.agg cs) w := by
  have hp' : tmps[p]?.getD undef = .pointer (some ⟨g, 0, none⟩) := by simpa using hp
  simp [results, h, hp', asAddr, run_loadVar_row w g t ty cs fr d hg hu hd hi]
def PutC (w : World) (S : Nat → Prop) (nb : Nat) (x : Tr) (k N : Nat) (t : Tr) (e : Ending) (w' : World) : Prop :=
  ∃ v, e = .returned v ∧ TrAt w' (fun y => S y ∨ (w.heap.size ≤ y ∧ y < w'.heap.size)) v (putT x k N t).1 ∧ w'.heap[nb]? = some (.cells #[.int .i64 ((putT x k N t).2 : Int)] 3 (0, 0)) ∧ Touched w w' (fun y => y = nb)
/-- What the boxes hold behind the first rows of the text. -/
theorem put_start {w : World} {t x : Tr} {ka xa : Option Addr} {n cap xn xc nb N : Nat} (hnb : w.heap[nb]? = some (.cells #[.int .i64 (N : Int)] 3 (0, 0))) :
    (((w.alloc (.cells #[.int .i64 t.id, .int .i64 t.kind, .string t.text, .slice ka n cap] 24)).alloc (.cells #[.int .i64 x.id, .int .i64 x.kind, .string x.text, .slice xa xn xc] 24)).alloc (.cells #[.int .i64 0, .int .i64 0, .string ⟨#[]⟩, .slice none 0 0] 24)).cell? ⟨nb, 0, none⟩ = some (.int .i64 (N : Int)) ∧ (((w.alloc (.cells #[.int .i64 t.id, .int .i64 t.kind, .string t.text, .slice ka n cap] 24)).alloc (.cells #[.int .i64 x.id, .int .i64 x.kind, .string x.text, .slice xa xn xc] 24)).alloc (.cells #[.int .i64 0, .int .i64 0, .string ⟨#[]⟩, .slice none 0 0] 24)).frozen? ⟨nb, 0, none⟩ = false ∧
    ((((w.alloc (.cells #[.int .i64 t.id, .int .i64 t.kind, .string t.text, .slice ka n cap] 24)).alloc (.cells #[.int .i64 x.id, .int .i64 x.kind, .string x.text, .slice xa xn xc] 24)).alloc (.cells #[.int .i64 0, .int .i64 0, .string ⟨#[]⟩, .slice none 0 0] 24)).setCell ⟨nb, 0, none⟩ (.int .i64 ((N : Int) + 1))).heap[w.heap.size]? = some (.cells #[.int .i64 t.id, .int .i64 t.kind, .string t.text, .slice ka n cap] 24 (0, 0)) ∧ ((((w.alloc (.cells #[.int .i64 t.id, .int .i64 t.kind, .string t.text, .slice ka n cap] 24)).alloc (.cells #[.int .i64 x.id, .int .i64 x.kind, .string x.text, .slice xa xn xc] 24)).alloc (.cells #[.int .i64 0, .int .i64 0, .string ⟨#[]⟩, .slice none 0 0] 24)).setCell ⟨nb, 0, none⟩ (.int .i64 ((N : Int) + 1))).heap[w.heap.size + 1]? = some (.cells #[.int .i64 x.id, .int .i64 x.kind, .string x.text, .slice xa xn xc] 24 (0, 0)) ∧ ((((w.alloc (.cells #[.int .i64 t.id, .int .i64 t.kind, .string t.text, .slice ka n cap] 24)).alloc (.cells #[.int .i64 x.id, .int .i64 x.kind, .string x.text, .slice xa xn xc] 24)).alloc (.cells #[.int .i64 0, .int .i64 0, .string ⟨#[]⟩, .slice none 0 0] 24)).setCell ⟨nb, 0, none⟩ (.int .i64 ((N : Int) + 1))).heap[w.heap.size + 1 + 1]? = some (.cells #[.int .i64 0, .int .i64 0, .string ⟨#[]⟩, .slice none 0 0] 24 (0, 0)) ∧ ((((w.alloc (.cells #[.int .i64 t.id, .int .i64 t.kind, .string t.text, .slice ka n cap] 24)).alloc (.cells #[.int .i64 x.id, .int .i64 x.kind, .string x.text, .slice xa xn xc] 24)).alloc (.cells #[.int .i64 0, .int .i64 0, .string ⟨#[]⟩, .slice none 0 0] 24)).setCell ⟨nb, 0, none⟩ (.int .i64 ((N : Int) + 1))).heap[nb]? = some (.cells #[.int .i64 ((N : Int) + 1)] 3 (0, 0)) ∧ Touched w ((((w.alloc (.cells #[.int .i64 t.id, .int .i64 t.kind, .string t.text, .slice ka n cap] 24)).alloc (.cells #[.int .i64 x.id, .int .i64 x.kind, .string x.text, .slice xa xn xc] 24)).alloc (.cells #[.int .i64 0, .int .i64 0, .string ⟨#[]⟩, .slice none 0 0] 24)).setCell ⟨nb, 0, none⟩ (.int .i64 ((N : Int) + 1))) (fun y => y = nb) ∧ ((((w.alloc (.cells #[.int .i64 t.id, .int .i64 t.kind, .string t.text, .slice ka n cap] 24)).alloc (.cells #[.int .i64 x.id, .int .i64 x.kind, .string x.text, .slice xa xn xc] 24)).alloc (.cells #[.int .i64 0, .int .i64 0, .string ⟨#[]⟩, .slice none 0 0] 24)).setCell ⟨nb, 0, none⟩ (.int .i64 ((N : Int) + 1))).heap.size = w.heap.size + 3 := by
  have hlt := lt_of_heap hnb
  have a0 : (((w.alloc (.cells #[.int .i64 t.id, .int .i64 t.kind, .string t.text, .slice ka n cap] 24)).alloc (.cells #[.int .i64 x.id, .int .i64 x.kind, .string x.text, .slice xa xn xc] 24)).alloc (.cells #[.int .i64 0, .int .i64 0, .string ⟨#[]⟩, .slice none 0 0] 24)).heap[w.heap.size]? = some (.cells #[.int .i64 t.id, .int .i64 t.kind, .string t.text, .slice ka n cap] 24 (0, 0)) := allocs_at [.cells #[.int .i64 t.id, .int .i64 t.kind, .string t.text, .slice ka n cap] 24, .cells #[.int .i64 x.id, .int .i64 x.kind, .string x.text, .slice xa xn xc] 24, .cells #[.int .i64 0, .int .i64 0, .string ⟨#[]⟩, .slice none 0 0] 24] w 0 _ rfl
  have a1 : (((w.alloc (.cells #[.int .i64 t.id, .int .i64 t.kind, .string t.text, .slice ka n cap] 24)).alloc (.cells #[.int .i64 x.id, .int .i64 x.kind, .string x.text, .slice xa xn xc] 24)).alloc (.cells #[.int .i64 0, .int .i64 0, .string ⟨#[]⟩, .slice none 0 0] 24)).heap[w.heap.size + 1]? = some (.cells #[.int .i64 x.id, .int .i64 x.kind, .string x.text, .slice xa xn xc] 24 (0, 0)) := allocs_at [.cells #[.int .i64 t.id, .int .i64 t.kind, .string t.text, .slice ka n cap] 24, .cells #[.int .i64 x.id, .int .i64 x.kind, .string x.text, .slice xa xn xc] 24, .cells #[.int .i64 0, .int .i64 0, .string ⟨#[]⟩, .slice none 0 0] 24] w 1 _ rfl
  have a2 : (((w.alloc (.cells #[.int .i64 t.id, .int .i64 t.kind, .string t.text, .slice ka n cap] 24)).alloc (.cells #[.int .i64 x.id, .int .i64 x.kind, .string x.text, .slice xa xn xc] 24)).alloc (.cells #[.int .i64 0, .int .i64 0, .string ⟨#[]⟩, .slice none 0 0] 24)).heap[w.heap.size + 2]? = some (.cells #[.int .i64 0, .int .i64 0, .string ⟨#[]⟩, .slice none 0 0] 24 (0, 0)) := allocs_at [.cells #[.int .i64 t.id, .int .i64 t.kind, .string t.text, .slice ka n cap] 24, .cells #[.int .i64 x.id, .int .i64 x.kind, .string x.text, .slice xa xn xc] 24, .cells #[.int .i64 0, .int .i64 0, .string ⟨#[]⟩, .slice none 0 0] 24] w 2 _ rfl
  have hab : Below w.heap.size w (((w.alloc (.cells #[.int .i64 t.id, .int .i64 t.kind, .string t.text, .slice ka n cap] 24)).alloc (.cells #[.int .i64 x.id, .int .i64 x.kind, .string x.text, .slice xa xn xc] 24)).alloc (.cells #[.int .i64 0, .int .i64 0, .string ⟨#[]⟩, .slice none 0 0] 24)) := allocs_below [.cells #[.int .i64 t.id, .int .i64 t.kind, .string t.text, .slice ka n cap] 24, .cells #[.int .i64 x.id, .int .i64 x.kind, .string x.text, .slice xa xn xc] 24, .cells #[.int .i64 0, .int .i64 0, .string ⟨#[]⟩, .slice none 0 0] 24] w
  have hn := (hab.block nb hlt).trans hnb
  obtain ⟨c, f⟩ := cell1 hn
  refine ⟨c, f, ?_, ?_, ?_, set1 hn, ?_, ?_⟩
  · rw [Below.heap_setCell _ _ _ _ (show w.heap.size ≠ nb by omega)]; exact a0
  · rw [Below.heap_setCell _ _ _ _ (show w.heap.size + 1 ≠ nb by omega)]; exact a1
  · rw [Below.heap_setCell _ _ _ _ (show w.heap.size + 1 + 1 ≠ nb by omega)]; exact a2
  · exact touched_set (S := fun y => y = nb) ⟨hab.os, hab.tape, hab.output, hab.size, fun y hy _ => hab.block y hy⟩ nb _ rfl
  · simp [World.setCell]
set_option maxRecDepth 100000 in
set_option maxHeartbeats 4000000 in
theorem put_here (w : World) (S : Nat → Prop) (tv xv : Value) (t x : Tr) (nb k N : Nat) (hS : ∀ y, S y → y < w.heap.size ∧ y ≠ nb) (ht : TrAt w S tv t) (hx : TrAt w S xv x) (hnb : w.heap[nb]? = some (.cells #[.int .i64 (N : Int)] 3 (0, 0))) (hN : N ≤ 1000) (hk : N = k) :
    Calls Try.prog 48 #[tv, xv, .int .i64 (k : Int), .pointer (some ⟨nb, 0, none⟩)] w (PutC w S nb x k N t) := by
  obtain ⟨ka, cap, rfl, hcap, hkt⟩ := ht
  obtain ⟨xa, xc, rfl, hxcap, hxt⟩ := hx
  obtain ⟨n, hn⟩ : ∃ n, n = foLen t.kids := ⟨_, rfl⟩
  obtain ⟨xn, hxn⟩ : ∃ xn, xn = foLen x.kids := ⟨_, rfl⟩
  rw [← hn, ← hxn]
  obtain ⟨c0, f0, a0, a1, a2, a3, hT, hsz⟩ := put_start (t := t) (x := x) (ka := ka) (xa := xa) (n := n) (cap := cap) (xn := xn) (xc := xc) hnb
  obtain ⟨x0, x1, x2, x3⟩ := boxN a1
  obtain ⟨s0, s1, r0, r1, r2, r3, r4, r5, r6, r7⟩ := set4 (.int .i64 x.id) (.int .i64 x.kind) (.string x.text) (.slice xa xn xc) a2
  have hT4 := touched4 hT (w.heap.size + 1 + 1) (.int .i64 x.id) (.int .i64 x.kind) (.string x.text) (.slice xa xn xc) (Or.inr (by omega))
  have hlt := lt_of_heap hnb
  have hn4 := (s1 nb (by omega)).trans a3
  have H := Lib.hid (And.intro s0 (And.intro hT4 (And.intro hn4 (And.intro hxcap (And.intro hxt (And.intro hS hxn))))))
  subst hk
  clear a0 a1 a2 a3 hT hsz s0 s1 hT4 hlt hn4 hcap hkt hxcap hxt hn hxn hS hnb
  go_enter Try.func48, Try.ntmps48
  go_wp2_with fail
  refine bodyPost_ret (results_cellW7 rfl _ _ (w.heap.size + 1 + 1) 24 _ _ _ rfl H.out.1 Try.underlying24 rfl (by kernel_rfl)) rfl ?_
  obtain ⟨h0, hT, hn, hc, hxt, hS, hxn⟩ := H.out
  refine ⟨_, rfl, ?_, ?_, hT⟩
  · rw [putT, if_pos rfl]
    refine ⟨xa, xc, by rw [← hxn], hc, hxt.kept fun y hy => ⟨Or.inl hy, hT.block y (hS y hy).1 (hS y hy).2⟩⟩
  · rw [putT, if_pos rfl, hn]; rfl
/-- What a subtree made anew may lie in: the old blocks, and new ones that are no row under way. -/
def MidP (S : Nat → Prop) (B : Nat) (V : World) (rv : Value) : Nat → Prop := fun y => S y ∨ (B ≤ y ∧ y < V.heap.size ∧ rv.ownBlock ≠ some y)
structure PutI (w : World) (S : Nat → Prop) (nb : Nat) (t x : Tr) (k N j : Nat) (tc xc0 : Array Value) (ra : Option Addr) (rc : Nat) (xs : List Value) (V : World) : Prop where
  tou : Touched w V (fun y => y = nb)
  b0 : V.heap[w.heap.size]? = some (.cells tc 24 (0, 0))
  b1 : V.heap[w.heap.size + 1]? = some (.cells xc0 24 (0, 0))
  b2 : V.heap[w.heap.size + 1 + 1]? = some (.cells #[.int .i64 0, .int .i64 0, .string ⟨#[]⟩, .slice none 0 0] 24 (0, 0))
  b3 : V.heap[w.heap.size + 1 + 1 + 1]? = some (.cells #[.int .i64 t.id, .int .i64 t.kind, .string t.text, .slice ra j rc] 24 (0, 0))
  own : V.ownsRow (w.heap.size + 4) 24 4 (.slice ra j rc) j xs
  row : FoRow V (MidP S (w.heap.size + 4) V (.slice ra j rc)) (putFo x k (N + 1) (foTake j t.kids)).1 xs
  ctr : V.heap[nb]? = some (.cells #[.int .i64 ((putFo x k (N + 1) (foTake j t.kids)).2 : Int)] 3 (0, 0))
theorem put_zero {w : World} {S : Nat → Prop} {t x : Tr} {ka xa : Option Addr} {n cap xn xc nb k N : Nat} (hnb : w.heap[nb]? = some (.cells #[.int .i64 (N : Int)] 3 (0, 0))) :
    PutI w S nb t x k N 0 #[.int .i64 t.id, .int .i64 t.kind, .string t.text, .slice ka n cap] #[.int .i64 x.id, .int .i64 x.kind, .string x.text, .slice xa xn xc] none 0 [] (((((w.alloc (.cells #[.int .i64 t.id, .int .i64 t.kind, .string t.text, .slice ka n cap] 24)).alloc (.cells #[.int .i64 x.id, .int .i64 x.kind, .string x.text, .slice xa xn xc] 24)).alloc (.cells #[.int .i64 0, .int .i64 0, .string ⟨#[]⟩, .slice none 0 0] 24)).setCell ⟨nb, 0, none⟩ (.int .i64 ((N : Int) + 1))).alloc (.cells #[.int .i64 t.id, .int .i64 t.kind, .string t.text, .slice none 0 0] 24)) := by
  obtain ⟨_, _, a0, a1, a2, a3, hT, hsz⟩ := put_start (t := t) (x := x) (ka := ka) (xa := xa) (n := n) (cap := cap) (xn := xn) (xc := xc) hnb
  have hlt := lt_of_heap hnb
  generalize hV : World.setCell _ _ _ = V1 at a0 a1 a2 a3 hT hsz ⊢
  clear hV
  have hk : ∀ y, y < w.heap.size + 3 → (V1.alloc (.cells #[.int .i64 t.id, .int .i64 t.kind, .string t.text, .slice none 0 0] 24)).heap[y]? = V1.heap[y]? := fun y hy => Below.heap_alloc _ _ _ (by omega)
  refine ⟨⟨hT.os, hT.tape, hT.output, by simp; omega, fun y hy hn => (hk y (by omega)).trans (hT.block y hy hn)⟩, (hk _ (by omega)).trans a0, (hk _ (by omega)).trans a1, (hk _ (by omega)).trans a2, ?_, World.ownsRow_nil _ _ _ _, by simp [foTake, putFo, FoRow], (hk _ (by omega)).trans a3⟩
  have := heap_alloc_new V1 (.cells #[.int .i64 t.id, .int .i64 t.kind, .string t.text, .slice none 0 0] 24)
  rw [hsz] at this; exact this
theorem owns_cap {w : World} {B : Nat} {e : TypeId} {size : Nat} {ra : Option Addr} {rc n : Nat} {xs : List Value} (h : w.ownsRow B e size (.slice ra n rc) n xs) : n ≤ rc := by
  rcases h.2 with ⟨hv, h1⟩ | ⟨g, cap, cur, hv, _, _, hc, _⟩
  · cases hv; omega
  · cases hv; exact hc
/-- Behind the last row. -/
theorem put_last {w V : World} {S : Nat → Prop} {nb k N n : Nat} {t x : Tr} {tc xc0 : Array Value} {ra : Option Addr} {rc : Nat} {xs : List Value} (h : PutI w S nb t x k N n tc xc0 ra rc xs V) (hS : ∀ y, S y → y < w.heap.size ∧ y ≠ nb) (hlt : nb < w.heap.size) (hn : n = foLen t.kids) (hNk : ¬ N = k) :
    ∀ V', V' = ((((V.setCell ⟨w.heap.size + 1 + 1, 0, none⟩ (.int .i64 t.id)).setCell ⟨w.heap.size + 1 + 1, 1, none⟩ (.int .i64 t.kind)).setCell ⟨w.heap.size + 1 + 1, 2, none⟩ (.string t.text)).setCell ⟨w.heap.size + 1 + 1, 3, none⟩ (.slice ra n rc)) →
    V'.heap[w.heap.size + 1 + 1]? = some (.cells #[.int .i64 t.id, .int .i64 t.kind, .string t.text, .slice ra n rc] 24 (0, 0)) ∧ PutC w S nb x k N t (.returned (.agg #[.int .i64 t.id, .int .i64 t.kind, .string t.text, .slice ra n rc])) V' := by
  rintro V' rfl
  obtain ⟨s0, s1, _⟩ := set4 (.int .i64 t.id) (.int .i64 t.kind) (.string t.text) (.slice ra n rc) h.b2
  have hT4 := touched4 h.tou (w.heap.size + 1 + 1) (.int .i64 t.id) (.int .i64 t.kind) (.string t.text) (.slice ra n rc) (Or.inr (by omega))
  have hsz : ((((V.setCell ⟨w.heap.size + 1 + 1, 0, none⟩ (.int .i64 t.id)).setCell ⟨w.heap.size + 1 + 1, 1, none⟩ (.int .i64 t.kind)).setCell ⟨w.heap.size + 1 + 1, 2, none⟩ (.string t.text)).setCell ⟨w.heap.size + 1 + 1, 3, none⟩ (.slice ra n rc)).heap.size = V.heap.size := by simp [World.setCell]
  have hall : foTake n t.kids = t.kids := foTake_all n t.kids (by omega)
  have hrow := h.row
  have hctr := h.ctr
  rw [hall] at hrow hctr
  refine ⟨s0, _, rfl, ?_, ?_, hT4⟩
  · rw [putT, if_neg hNk]
    have hl : foLen (putFo x k (N + 1) t.kids).1 = n := by rw [putFo_len, hn]
    refine ⟨ra, rc, by simp only [hl], by simp only [hl]; exact owns_cap h.own, ?_⟩
    show FoAt _ _ (putFo x k (N + 1) t.kids).1 ra
    rcases h.own.2 with ⟨hv, h1⟩ | ⟨g, cp, cur, hv, hg, hh, _⟩
    · have h0 : (putFo x k (N + 1) t.kids).1 = .nil := by
        cases hf : (putFo x k (N + 1) t.kids).1 with
        | nil => rfl
        | node => rw [hf] at hl; simp [foLen] at hl; omega
      rw [h0]; exact True.intro
    · cases hv
      have hgl : g < V.heap.size := lt_of_heap hh
      refine FoRow.lies (g := g) (Or.inr ⟨by omega, by rw [hsz]; exact hgl⟩) 0 (hrow.kept fun y hy => ?_) fun j u hj => ?_
      · rcases hy with hy | ⟨hy1, hy2, _⟩
        · have := hS y hy; exact ⟨Or.inl hy, s1 y (by omega)⟩
        · exact ⟨Or.inr ⟨by omega, by rw [hsz]; exact hy2⟩, s1 y (by omega)⟩
      · rw [Nat.zero_add, World.cell?_of_block (a := ⟨g, j, none⟩) (s1 g (by omega))]
        exact owns_cell h.own rfl j u hj
  · rw [putT, if_neg hNk, s1 nb (by omega)]; exact hctr
theorem foSize_take_node : ∀ (j : Nat) (f : Fo) (b o : Nat) (a : Int × Int × ByteArray) (l r : Fo), foDrop j f = .node b o a l r → foSize (foTake j f) + foSize l + 1 ≤ foSize f ∧ foTake (j + 1) f = foSnoc (foTake j f) b o a l
  | 0, .nil, _, _, _, _, _, h => by cases h
  | _ + 1, .nil, _, _, _, _, _, h => by cases h
  | 0, .node _ _ _ _ _, _, _, _, _, _, h => by cases h; exact ⟨by simp [foTake, foSize], by simp [foTake, foSnoc]⟩
  | j + 1, .node _ _ _ _ r', b, o, a, l, r, h => by
    obtain ⟨h1, h2⟩ := foSize_take_node j r' b o a l r (by simpa [foDrop] using h)
    exact ⟨by simp [foTake, foSize]; omega, by rw [foTake, h2]; simp [foTake, foSnoc]⟩
/-- One more row. -/
theorem put_next {w V W2 w8 : World} {S : Nat → Prop} {nb k N j : Nat} {t x : Tr} {tc xc0 : Array Value} {ra ra' ya : Option Addr} {rc rc' yc : Nat} {xs : List Value} {o : Obj} (hp : PutI w S nb t x k N j tc xc0 ra rc xs V) (hS : ∀ y, S y → y < w.heap.size ∧ y ≠ nb) (hlt : nb < w.heap.size)
    {b0 o0 : Nat} {key : Int × Int × ByteArray} {l r : Fo} (hd : foDrop j t.kids = .node b0 o0 key l r) (hT2 : Touched V W2 (fun y => y = nb)) {y : Tr} {nj : Nat} (hy : putT x k (putFo x k (N + 1) (foTake j t.kids)).2 ⟨key.1, key.2.1, key.2.2, l⟩ = (y, nj))
    (hyc : foLen y.kids ≤ yc) (hyk : FoAt W2 (fun z => S z ∨ (V.heap.size ≤ z ∧ z < W2.heap.size)) y.kids ya) (hc : W2.heap[nb]? = some (.cells #[.int .i64 (nj : Int)] 3 (0, 0)))
    (hown : w8.ownsRow (w.heap.size + 4) 24 4 (.slice ra' (j + 1) rc') (j + 1) (xs ++ [.int .i64 y.id, .int .i64 y.kind, .string y.text, .slice ya (foLen y.kids) yc]))
    (hgr : (W2.alloc o).grownBy w8 (Value.slice ra j rc).ownBlock) (hat : (Value.slice ra' (j + 1) rc').ownBlock = (Value.slice ra j rc).ownBlock ∨ (Value.slice ra' (j + 1) rc').ownBlock = some (W2.alloc o).heap.size) :
    w8.heap[w.heap.size + 1 + 1 + 1]? = some (.cells #[.int .i64 t.id, .int .i64 t.kind, .string t.text, .slice ra j rc] 24 (0, 0)) ∧
    PutI w S nb t x k N (j + 1) tc xc0 ra' rc' (xs ++ [.int .i64 y.id, .int .i64 y.kind, .string y.text, .slice ya (foLen y.kids) yc]) (w8.setCell ⟨w.heap.size + 1 + 1 + 1, 3, none⟩ (.slice ra' (j + 1) rc')) := by
  have hVs := hp.tou.size
  have h3l := lt_of_heap hp.b3
  have h2s := hT2.size
  have h8s := hgr.size
  rw [World.size_alloc] at h8s hat
  have hob : ∀ g, (Value.slice ra j rc).ownBlock = some g → w.heap.size + 4 ≤ g ∧ g < V.heap.size := fun g hg => owns_bounds hp.own hg
  have hob' : ∀ g, (Value.slice ra' (j + 1) rc').ownBlock = some g → w.heap.size + 4 ≤ g ∧ g < w8.heap.size := fun g hg => owns_bounds hown hg
  have h28 : ∀ z, z < W2.heap.size → (Value.slice ra j rc).ownBlock ≠ some z → w8.heap[z]? = W2.heap[z]? := fun z hz hn => by
    rw [hgr.block z (by rw [World.size_alloc]; omega) (fun e => hn e.symm), Below.heap_alloc _ _ _ hz]
  have hV8 : ∀ z, z < V.heap.size → z ≠ nb → (Value.slice ra j rc).ownBlock ≠ some z → w8.heap[z]? = V.heap[z]? := fun z hz hn ho => (h28 z (by omega) ho).trans (hT2.block z hz hn)
  have hlow : ∀ z, z < w.heap.size + 4 → z ≠ nb → w8.heap[z]? = V.heap[z]? := fun z hz hn => hV8 z (by omega) hn (fun e => by have := hob z e; omega)
  have hset : ∀ z, z ≠ w.heap.size + 1 + 1 + 1 → (w8.setCell ⟨w.heap.size + 1 + 1 + 1, 3, none⟩ (.slice ra' (j + 1) rc')).heap[z]? = w8.heap[z]? := fun z hz => Below.heap_setCell _ _ _ _ hz
  have hsz9 : (w8.setCell ⟨w.heap.size + 1 + 1 + 1, 3, none⟩ (.slice ra' (j + 1) rc')).heap.size = w8.heap.size := by simp [World.setCell]
  have hb38 := (hlow (w.heap.size + 1 + 1 + 1) (by omega) (by omega)).trans hp.b3
  obtain ⟨htk1, htk2⟩ := foSize_take_node j t.kids _ _ _ _ _ hd
  have hmid : ∀ z, MidP S (w.heap.size + 4) V (.slice ra j rc) z → MidP S (w.heap.size + 4) (w8.setCell ⟨w.heap.size + 1 + 1 + 1, 3, none⟩ (.slice ra' (j + 1) rc')) (.slice ra' (j + 1) rc') z ∧ (w8.setCell ⟨w.heap.size + 1 + 1 + 1, 3, none⟩ (.slice ra' (j + 1) rc')).heap[z]? = V.heap[z]? := fun z hz => by
    rcases hz with hz | ⟨hz1, hz2, hz3⟩
    · have := hS z hz
      exact ⟨Or.inl hz, (hset z (by omega)).trans (hlow z (by omega) this.2)⟩
    · refine ⟨Or.inr ⟨hz1, by rw [hsz9]; omega, fun e => ?_⟩, (hset z (by omega)).trans (hV8 z hz2 (by omega) hz3)⟩
      rcases hat with h | h
      · exact hz3 (h.symm.trans e)
      · rw [h] at e; simp only [Option.some.injEq] at e; omega
  refine ⟨hb38, ⟨?_, ?_, ?_, ?_, ?_, ?_, ?_, ?_⟩⟩
  · refine ⟨hgr.os.trans (hT2.os.trans hp.tou.os), hgr.tape.trans (hT2.tape.trans hp.tou.tape), hgr.output.trans (hT2.output.trans hp.tou.output), by rw [hsz9]; omega, fun z hz hn => ?_⟩
    rw [hset z (by omega), hlow z (by omega) hn, hp.tou.block z hz hn]
  · rw [hset _ (by omega), hlow _ (by omega) (by omega)]; exact hp.b0
  · rw [hset _ (by omega), hlow _ (by omega) (by omega)]; exact hp.b1
  · rw [hset _ (by omega), hlow _ (by omega) (by omega)]; exact hp.b2
  · rw [heap_setCell_same _ _ 3 _ _ _ hb38]; simp
  · exact owns_kept hown fun g cur hg ho => hset g (by have := (hob' g ho).1; omega)
  · rw [htk2, putFo_snoc, hy]
    refine FoRow.snoc (f := (putFo x k (N + 1) (foTake j t.kids)).1) (hyk.kept fun z hz => ?_) yc hyc (hp.row.kept hmid)
    rcases hz with hz | ⟨hz1, hz2⟩
    · have := hS z hz
      refine ⟨Or.inl hz, (hset z (by omega)).trans (h28 z (by omega) (fun e => by have := hob z e; omega))⟩
    · refine ⟨Or.inr ⟨by omega, by rw [hsz9]; omega, fun e => ?_⟩, (hset z (by omega)).trans (h28 z hz2 (fun e => by have := hob z e; omega))⟩
      rcases hat with h | h
      · have := hob z (h.symm.trans e); omega
      · rw [h] at e; simp only [Option.some.injEq] at e; omega
  · rw [htk2, putFo_snoc, hy, hset nb (by omega), h28 nb (by omega) (fun e => by have := hob nb e; omega)]; exact hc
end Go.Proofs.Ytmfpilacmafglaa
