/-
  The ids of a tree's nodes, in the walk; whether there are too many. No condition but that there are not too many nodes.
  The row of the operations; what Apply answers. No condition.
-/
import Derived.Test.YtfdcopegkhofnaaKIdsQb
import Derived.Test.YtfdcopegkhofnaaKAlongBQb
import Derived.Test.YtfdcopegkhofnaaKPutQb
import Derived.Test.YtfdcopegkhofnaaECopyWQb
namespace Go.Proofs.Ytfdcopegkhofnaa
open Go.RowKit Go.Shelf
set_option linter.unusedVariables false
set_option linter.unusedSimpArgs false

theorem own_base {w : World} {B B' : Nat} {e : TypeId} {size : Nat} {v : Value} {n : Nat} {xs : List Value} (h : w.ownsRow B e size v n xs) (hB : B' ≤ B) : w.ownsRow B' e size v n xs :=
  ⟨h.1, h.2.imp (fun h => h) (fun ⟨g, c, cur, h1, h2, h3⟩ => ⟨g, c, cur, h1, Nat.le_trans hB h2, h3⟩)⟩
def IdsC (w : World) (l : List Int) (e : Ending) (w' : World) : Prop := ∃ a c, e = .returned (.slice a l.length c) ∧ w'.ownsRow w.heap.size 3 1 (.slice a l.length c) l.length (l.map intV) ∧ Below w.heap.size w w'
set_option maxRecDepth 100000 in
set_option maxHeartbeats 4000000 in
theorem ids_any (w : World) (S : Nat → Prop) (nv : Value) (t : Tr) (up : Int) (hS : ∀ y, S y → y < w.heap.size) (ht : TrAt w S nv t) (hsz : ((foSize t.kids + 1 : Nat) : Int) ≤ up) (hup : up ≤ 1000000) :
    Calls Try.prog 136 #[nv, .int .i64 up] w (IdsC w (idT t)) := by
  have hmf : ∀ (fn : Fn) (first cap : Array Value) (w : World), (Instr.makeFunc fn first cap).run Try.prog w = .ok (.func fn first cap) w := fun _ _ _ _ => rfl
  obtain ⟨ka, tc, rfl, hcap, hk⟩ := ht
  obtain ⟨nk, hnk⟩ : ∃ nk, nk = foLen t.kids := ⟨_, rfl⟩
  rw [← hnk]
  obtain ⟨DV, hDV⟩ : ∃ DV, DV = Value.func (.func 152) #[] #[.pointer (some ⟨w.heap.size + 1 + 1, 0, none⟩), .pointer (some ⟨w.heap.size + 1, 0, none⟩), .pointer (some ⟨w.heap.size + 1 + 1 + 1, 0, none⟩)] := ⟨_, rfl⟩
  obtain ⟨W, hW⟩ : ∃ W, W = allocs w [.cells #[.int .i64 t.id, .int .i64 t.kind, .string t.text, .slice ka nk tc] 24, .cells #[.int .i64 up] 3, .cells #[.slice none 0 0] 64, .cells #[DV] 131] := ⟨_, rfl⟩
  have hb : Below w.heap.size w W := by rw [hW]; exact allocs_below _ _
  have hs : W.heap.size = w.heap.size + 4 := by rw [hW]; exact allocs_size _ _
  have h0 : W.heap[w.heap.size]? = some (.cells #[.int .i64 t.id, .int .i64 t.kind, .string t.text, .slice ka nk tc] 24 (0, 0)) := by rw [hW]; exact allocs_at _ _ 0 _ rfl
  have h1 : W.heap[w.heap.size + 1]? = some (.cells #[.int .i64 up] 3 (0, 0)) := by rw [hW]; exact allocs_at _ _ 1 _ rfl
  have h2 : W.heap[w.heap.size + 1 + 1]? = some (.cells #[.slice none 0 0] 64 (0, 0)) := by rw [hW]; exact allocs_at _ _ 2 _ rfl
  have h3 : W.heap[w.heap.size + 1 + 1 + 1]? = some (.cells #[DV] 131 (0, 0)) := by rw [hW]; exact allocs_at _ _ 3 _ rfl
  have hIW : IdW W (w.heap.size + 1 + 1) (w.heap.size + 1) (w.heap.size + 1 + 1 + 1) up := ⟨by rw [h3, hDV], h1, ⟨by omega, by omega⟩, ⟨by omega, by omega⟩, by omega⟩
  obtain ⟨b0, b1, b2, b3⟩ := box4 h0
  have hkW : FoAt W (fun y => S y ∨ y = w.heap.size) t.kids ka := hk.kept (w' := W) fun y hy => ⟨Or.inl hy, hb.block y (hS y hy)⟩
  have hnode : NodeAt W (fun y => S y ∨ y = w.heap.size) t w.heap.size 0 := ⟨Or.inr rfl, b0, b1, b2, ka, tc, by rw [← hnk]; exact b3, hcap, hkW⟩
  have hIA : IdAt W (w.heap.size + 1 + 1) (w.heap.size + 1) (w.heap.size + 1 + 1 + 1) up [] W := ⟨⟨none, 0, h2, World.ownsRow_nil _ _ _ _⟩, fun _ _ _ => rfl, Nat.le_refl _, rfl, rfl, rfl⟩
  have hc := down_ids hIW (S := fun y => S y ∨ y = w.heap.size) (fun y hy => by rcases hy with hy | hy; have := hS y hy; exact ⟨by omega, by omega⟩; exact ⟨by omega, by omega⟩) hup (foSize t.kids + 1) W [] t w.heap.size 0 (Nat.lt_succ_self _) hnode hIA (by simpa using hsz)
  rw [List.nil_append] at hc
  have HC := Lib.hid (And.intro hc (And.intro hb (And.intro hs hW)))
  have HDV := Lib.hid hDV
  clear hc hb hs hW h0 h1 h2 h3 hIW b0 b1 b2 b3 hkW hnode hIA hDV hS hk hcap hsz hup hnk
  go_enter Try.func136, Try.ntmps136
  go_wp2_with fail
  have hWW := HC.out.2.2.2
  rw [HDV.out] at hWW
  change Calls _ _ _ (allocs w [.cells #[.int .i64 t.id, .int .i64 t.kind, .string t.text, .slice ka nk tc] 24, .cells #[.int .i64 up] 3, .cells #[.slice none 0 0] 64, .cells #[Value.func (.func 152) #[] #[.pointer (some ⟨w.heap.size + 1 + 1, 0, none⟩), .pointer (some ⟨w.heap.size + 1, 0, none⟩), .pointer (some ⟨w.heap.size + 1 + 1 + 1, 0, none⟩)]] 131]) _
  rw [← hWW]
  clear hWW
  refine HC.out.1.mono ?_
  rintro e X ⟨rfl, hX⟩
  obtain ⟨a, c, hl, hro⟩ := hX.row
  have hl0 : X.cell? ⟨w.heap.size + 1 + 1, 0, none⟩ = some (.slice a (idT t).length c) := by rw [cell_of_row _ _ 0 _ _ _ hl]; rfl
  have hbX : Below w.heap.size w X := ⟨hX.os.trans HC.out.2.1.os, hX.tape.trans HC.out.2.1.tape, hX.output.trans HC.out.2.1.output, Nat.le_trans HC.out.2.1.size hX.size, fun y hy => (hX.below y (by have := HC.out.2.2.1; omega) (by omega)).trans (HC.out.2.1.block y hy)⟩
  have HE := Lib.hid (And.intro (own_base hro HC.out.2.1.size) hbX)
  obtain ⟨L, hL⟩ : ∃ L, L = idT t := ⟨_, rfl⟩
  rw [← hL] at hl0 HE
  have HL := Lib.hid hL
  obtain ⟨n, hn⟩ : ∃ n, n = L.length := ⟨_, rfl⟩
  rw [← hn] at hl0
  have HN := Lib.hid hn
  clear hl hro hX hbX hL hn
  go_wp2_with fail
  go_ret
  exact ⟨a, c, by rw [← HL.out, ← HN.out]; rfl, by have h := HE.out.1; rw [HL.out] at h; exact h, HE.out.2⟩
set_option maxRecDepth 100000 in
theorem great_any (w : World) (S : Nat → Prop) (nv : Value) (t : Tr) (hS : ∀ y, S y → y < w.heap.size) (ht : TrAt w S nv t) (hsz : foSize t.kids + 1 ≤ 2000) :
    Calls Try.prog 111 #[nv] w fun e w' => e = .returned (.bool false) ∧ Below w.heap.size w w' := by
  obtain ⟨ka, tc, rfl, hcap, hk⟩ := ht
  have hb : Below w.heap.size w (w.alloc (.cells #[.int .i64 t.id, .int .i64 t.kind, .string t.text, .slice ka (foLen t.kids) tc] 24)) := (Below.refl _ _).alloc (Nat.le_refl _) _
  have hc := ids_any (w.alloc (.cells #[.int .i64 t.id, .int .i64 t.kind, .string t.text, .slice ka (foLen t.kids) tc] 24)) S (.agg #[.int .i64 t.id, .int .i64 t.kind, .string t.text, .slice ka (foLen t.kids) tc]) t 2001 (fun y hy => Nat.lt_of_lt_of_le (hS y hy) hb.size) ⟨ka, tc, rfl, hcap, hk.below hb hS⟩ (by omega) (by omega)
  obtain ⟨nk, hnk⟩ : ∃ nk, nk = foLen t.kids := ⟨_, rfl⟩
  rw [← hnk] at hc hb ⊢
  obtain ⟨n, hn⟩ : ∃ n, n = (idT t).length := ⟨_, rfl⟩
  have hn2 : ¬ (2000 : Int) < (n : Int) := by rw [hn, idT_length]; omega
  have HC := Lib.hid (And.intro hc (And.intro hb hn))
  clear hc hb hn hk hcap hS hsz hnk
  go_enter Try.func111, Try.ntmps111
  go_wp2_with fail
  refine HC.out.1.mono ?_
  rintro e w2 ⟨a, c, rfl, _, hb2⟩
  rw [← HC.out.2.2]
  have HN2 := Lib.hid hn2
  have HB := Lib.hid (HC.out.2.1.trans (hb2.mono HC.out.2.1.size))
  clear hb2
  go_wp2_with fail
  go_ret
  refine ⟨?_, HB.out⟩
  have e : decide ((2000 : Int) < (n : Int)) = false := decide_eq_false (by omega)
  show Ending.returned (.bool (decide ((2000 : Int) < (n : Int)))) = _
  rw [e]
end Go.Proofs.Ytfdcopegkhofnaa
namespace Go.Proofs.Ytfdcopegkhofnaa
open Go.RowKit Go.Shelf
set_option linter.unusedVariables false
set_option linter.unusedSimpArgs false

def opsV : Value := .agg #[.nilFunc, .func (.func 137) #[] #[], .func (.func 138) #[] #[], .func (.func 139) #[] #[], .func (.func 140) #[] #[]]
def opsO : Obj := .cells #[.nilFunc, .func (.func 137) #[] #[], .func (.func 138) #[] #[], .func (.func 139) #[] #[], .func (.func 140) #[] #[]] 134 (0, 0)
set_option maxRecDepth 100000 in
theorem operations_any (w : World) : Calls Try.prog 112 #[] w fun e w' => e = .returned opsV ∧ Below w.heap.size w w' := by
  go_enter Try.func112, Try.ntmps112
  go_wp2_with fail
  exact bodyPost_ret (results_cellW rfl _ _ w.heap.size 134 _ _ _ rfl (heap_alloc_new w _) Try.underlying134 rfl (by kernel_rfl)) rfl ⟨rfl, (Below.refl _ _).alloc (Nat.le_refl _) _⟩
theorem FoAt.cells {w : World} {S : Nat → Prop} : ∀ {f : Fo} {a : Option Addr}, FoAt w S f a → FoAt w (fun x => CellsB w x ∧ S x) f a
  | .nil, _, _ => True.intro
  | .node _ _ k l r, a, h => by
    obtain ⟨b, off, ka, cap, e, hb, h0, h1, h2, h3, h4, h5, h6⟩ := h
    exact ⟨b, off, ka, cap, e, ⟨cellsB h0, hb⟩, h0, h1, h2, h3, h4, h5.cells, h6.cells⟩
theorem heap_alloc_size1 (w : World) (o : Obj) : (w.alloc o).heap.size = w.heap.size + 1 := by simp
/-- What Apply tells of what an operation told. -/
def applyR (r : Tr × Int) : Tr := if r.2 = 0 then r.1 else zeroK
/-- What Apply answers: a tree, none where there is an error. -/
def ApplyC (w : World) (T : Nat → Prop) (r : Tr × Int) (e : Ending) (w' : World) : Prop := ∃ v, e = .returned (.tuple #[v, .int .i64 r.2]) ∧ TrAt w' (fun y => CellsB w' y ∧ (T y ∨ w.heap.size ≤ y)) v (applyR r) ∧ Below w.heap.size w w'
/-- The end: what lies in the result's cell. -/
theorem apply_end {P : Program} {fn : Func} {p u : Tmp} (h : fn.results = #[.cell p 24, .tmp u]) (hP : P = Try.prog) {w W : World} {T : Nat → Prop} {tmps : Array Value} {r : Tr × Int} {g m kc : Nat} {kb : Option Addr} {y : Tr} (hb : Below w.heap.size w W) (hz : W.heap[g]? = some (.cells #[.int .i64 y.id, .int .i64 y.kind, .string y.text, .slice kb m kc] 24 (0, 0))) (hm : m = foLen y.kids) (hc : foLen y.kids ≤ kc) (hf : FoAt W (fun z => CellsB W z ∧ (T z ∨ w.heap.size ≤ z)) y.kids kb) (hy : applyR r = y)
    (h1 : tmps.getD p undef = .pointer (some ⟨g, 0, none⟩)) (h2 : tmps.getD u undef = .int .i64 r.2) : bodyPost P fn (ApplyC w T r) .ret { tmps, defers := [] } W := by
  subst hP
  refine bodyPost_ret (results_cellT h tmps W g 24 _ _ _ (.int .i64 r.2) h1 hz Try.underlying24 rfl (by kernel_rfl) h2) rfl ?_
  exact ⟨_, rfl, by rw [hy]; exact ⟨kb, kc, by rw [hm], hc, hf⟩, hb⟩
end Go.Proofs.Ytfdcopegkhofnaa
