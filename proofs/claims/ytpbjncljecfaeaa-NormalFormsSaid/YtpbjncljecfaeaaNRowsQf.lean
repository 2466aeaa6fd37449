/-
  A block's cells one by one. No condition.
  Rows of steps that are appended and cut. No condition but that they are not too long.
-/
import Derived.Test.YtpbjncljecfaeaaNCopyQf
import Derived.Deep.Cut
import Derived.Laws.AppendOwnNone
import Derived.Test.YtpbjncljecfaeaaNGreatQf
namespace Go.Proofs.Ytpbjncljecfaeaa
open Go.RowKit Go.Shelf
set_option linter.unusedVariables false

theorem box4 {w : World} {b : Nat} {c0 c1 c2 c3 : Value} {T : TypeId} (h : w.heap[b]? = some (.cells #[c0, c1, c2, c3] T (0, 0))) : w.cell? ⟨b, 0, none⟩ = some c0 ∧ w.cell? ⟨b, 1, none⟩ = some c1 ∧ w.cell? ⟨b, 2, none⟩ = some c2 ∧ w.cell? ⟨b, 3, none⟩ = some c3 :=
  ⟨by rw [cell_of_row _ _ 0 _ _ _ h]; rfl, by rw [cell_of_row _ _ 1 _ _ _ h]; rfl, by rw [cell_of_row _ _ 2 _ _ _ h]; rfl, by rw [cell_of_row _ _ 3 _ _ _ h]; rfl⟩
theorem box9 {w : World} {b : Nat} {c0 c1 c2 c3 c4 c5 c6 c7 c8 : Value} {T : TypeId} (h : w.heap[b]? = some (.cells #[c0, c1, c2, c3, c4, c5, c6, c7, c8] T (0, 0))) : w.cell? ⟨b, 0, none⟩ = some c0 ∧ w.cell? ⟨b, 1, none⟩ = some c1 ∧ w.cell? ⟨b, 2, none⟩ = some c2 ∧ w.cell? ⟨b, 3, none⟩ = some c3 ∧ w.cell? ⟨b, 4, none⟩ = some c4 ∧ w.cell? ⟨b, 5, none⟩ = some c5 ∧ w.cell? ⟨b, 6, none⟩ = some c6 ∧ w.cell? ⟨b, 7, none⟩ = some c7 ∧ w.cell? ⟨b, 8, none⟩ = some c8 :=
  ⟨by rw [cell_of_row _ _ 0 _ _ _ h]; rfl, by rw [cell_of_row _ _ 1 _ _ _ h]; rfl, by rw [cell_of_row _ _ 2 _ _ _ h]; rfl, by rw [cell_of_row _ _ 3 _ _ _ h]; rfl, by rw [cell_of_row _ _ 4 _ _ _ h]; rfl, by rw [cell_of_row _ _ 5 _ _ _ h]; rfl, by rw [cell_of_row _ _ 6 _ _ _ h]; rfl, by rw [cell_of_row _ _ 7 _ _ _ h]; rfl, by rw [cell_of_row _ _ 8 _ _ _ h]; rfl⟩
theorem box_below (w : World) (o : Obj) : Below w.heap.size w (w.alloc o) := (Below.refl _ _).alloc (Nat.le_refl _) _
theorem set_other {cur : Array Value} {a j : Nat} {u0 u1 u2 u3 : Value} (h : j < a ∨ a + 4 ≤ j) : ((((cur.setIfInBounds a u0).setIfInBounds (a + 1) u1).setIfInBounds (a + 2) u2).setIfInBounds (a + 3) u3)[j]? = cur[j]? := by
  rw [Array.getElem?_setIfInBounds_ne (by omega), Array.getElem?_setIfInBounds_ne (by omega), Array.getElem?_setIfInBounds_ne (by omega), Array.getElem?_setIfInBounds_ne (by omega)]
theorem set_here {cur : Array Value} {a : Nat} {u0 u1 u2 u3 : Value} (h : a + 3 < cur.size) : ((((cur.setIfInBounds a u0).setIfInBounds (a + 1) u1).setIfInBounds (a + 2) u2).setIfInBounds (a + 3) u3)[a]? = some u0 ∧ ((((cur.setIfInBounds a u0).setIfInBounds (a + 1) u1).setIfInBounds (a + 2) u2).setIfInBounds (a + 3) u3)[a + 1]? = some u1 ∧ ((((cur.setIfInBounds a u0).setIfInBounds (a + 1) u1).setIfInBounds (a + 2) u2).setIfInBounds (a + 3) u3)[a + 2]? = some u2 ∧ ((((cur.setIfInBounds a u0).setIfInBounds (a + 1) u1).setIfInBounds (a + 2) u2).setIfInBounds (a + 3) u3)[a + 3]? = some u3 := by
  refine ⟨?_, ?_, ?_, ?_⟩
  · rw [Array.getElem?_setIfInBounds_ne (by omega), Array.getElem?_setIfInBounds_ne (by omega), Array.getElem?_setIfInBounds_ne (by omega), Array.getElem?_setIfInBounds_self_of_lt (by omega)]
  · rw [Array.getElem?_setIfInBounds_ne (by omega), Array.getElem?_setIfInBounds_ne (by omega), Array.getElem?_setIfInBounds_self_of_lt (by simp; omega)]
  · rw [Array.getElem?_setIfInBounds_ne (by omega), Array.getElem?_setIfInBounds_self_of_lt (by simp; omega)]
  · rw [Array.getElem?_setIfInBounds_self_of_lt (by simp; omega)]
end Go.Proofs.Ytpbjncljecfaeaa
namespace Go.Proofs.Ytpbjncljecfaeaa
open Go.RowKit Go.Shelf
set_option linter.unusedVariables false
set_option linter.unusedSimpArgs false

theorem Try.infoStI : (Try.prog.info? 27).map (fun i => (i.size, i.bytes, i.zero.map (fun z => z.cells.size))) = some (9, 104, some 9) := by kernel_rfl
/-- A row's cells, one behind the other. -/
def cells9 (vs : List SV) : List Value := vs.flatMap fun x => stepC x.s x.a x.c
theorem cells9_len : ∀ vs : List SV, (cells9 vs).length = vs.length * 9
  | [] => rfl
  | x :: vs => by
    have h := cells9_len vs
    show ((x :: vs).flatMap fun x => stepC x.s x.a x.c).length = _
    rw [List.flatMap_cons, List.length_append, List.length_cons]
    show 9 + (cells9 vs).length = _
    omega
theorem cells9_at : ∀ {vs : List SV} {i : Nat} {u : Value}, (cells9 vs)[i]? = some u → ∃ k j x, i = k * 9 + j ∧ vs[k]? = some x ∧ (stepC x.s x.a x.c)[j]? = some u
  | [], i, u, h => by simp [cells9] at h
  | x :: vs, i, u, h => by
    have e : cells9 (x :: vs) = stepC x.s x.a x.c ++ cells9 vs := rfl
    rw [e] at h
    by_cases hi : i < 9
    · rw [List.getElem?_append_left (by simpa [stepC] using hi)] at h
      exact ⟨0, i, x, by omega, rfl, h⟩
    · rw [List.getElem?_append_right (by simp [stepC]; omega)] at h
      obtain ⟨k, j, y, h1, h2, h3⟩ := cells9_at h
      have h1' : i - 9 = k * 9 + j := h1
      exact ⟨k + 1, j, y, by omega, by simpa using h2, h3⟩
theorem cells9_mk : ∀ {vs : List SV} {k j : Nat} {x : SV} {u : Value}, vs[k]? = some x → (stepC x.s x.a x.c)[j]? = some u → (cells9 vs)[k * 9 + j]? = some u
  | [], _, _, _, _, h, _ => by simp at h
  | y :: vs, 0, j, x, u, h, hu => by
    simp at h; subst h
    have e : cells9 (y :: vs) = stepC y.s y.a y.c ++ cells9 vs := rfl
    rw [e, Nat.zero_mul, Nat.zero_add, List.getElem?_append_left (List.getElem?_eq_some_iff.1 hu).1]; exact hu
  | y :: vs, k + 1, j, x, u, h, hu => by
    have e : cells9 (y :: vs) = stepC y.s y.a y.c ++ cells9 vs := rfl
    rw [e, List.getElem?_append_right (by simp [stepC]; omega)]
    have := cells9_mk (vs := vs) (k := k) (by simpa using h) hu
    rw [← this]; congr 1; simp [stepC]; omega
theorem cells9_one (vs : List SV) : ∀ u ∈ cells9 vs, u.oneCell' = true := fun u hu => by
  obtain ⟨x, _, h⟩ := List.mem_flatMap.1 hu
  simp only [stepC, List.mem_cons, List.not_mem_nil, or_false] at h
  rcases h with rfl | rfl | rfl | rfl | rfl | rfl | rfl | rfl | rfl <;> rfl
theorem Row.news {w X : World} {ad : Addr} {vs : List SV} (h : Row w (some ad) vs) (hb : Below w.heap.size w X) : ∀ (j : Nat) (u : Value), (cells9 vs)[j]? = some u → X.cell? (ad.add j) = some u := fun j u hj => by
  obtain ⟨k, i, x, rfl, hx, hu⟩ := cells9_at hj
  obtain ⟨b, off, e, hbl, hc⟩ := h.cells k x hx
  cases e
  rw [Addr.add_mid, ← Nat.add_assoc]
  exact (World.cell?_of_block (a := ⟨b, off + k * 9 + i, none⟩) (hb.block b hbl)).trans (hc i u hu)
theorem Row.none {w : World} {vs : List SV} (h : Row w Option.none vs) : vs = [] := by
  match vs, h with
  | [], _ => rfl
  | x :: _, h => obtain ⟨b, off, e, _⟩ := h.cells 0 x rfl; cases e
/-- A row of the call's own out of rows that lie in memory. -/
theorem row_own {w X : World} {a : Option Addr} {c n : Nat} {vs : List SV} (hn : n = vs.length) (h : X.ownsRow w.heap.size 27 9 (.slice a n c) n (cells9 vs)) (hl : ∀ x ∈ vs, LiesI X x.s.sub.kids x.a x.c) (hf : ∀ x ∈ vs, foSize x.s.sub.kids + 1 ≤ 100000) (hlen : vs.length ≤ 1000000) : Row X a vs :=
  ⟨fun k x hx => by
    have hpos : 0 < n := by have := (List.getElem?_eq_some_iff.1 hx).1; omega
    rcases h.2 with ⟨_, h0⟩ | ⟨g, cap, cur, e, _, hg, _⟩
    · omega
    · cases e
      exact ⟨g, 0, rfl, lt_of_heap hg, fun j u hj => by rw [Nat.zero_add]; exact owns_cell h rfl _ u (cells9_mk hx hj)⟩, hl, hf, hlen⟩
/-- 'append(s, x...)', s of the call's own, x a row that lies in memory or nil. -/
theorem wpList_append_rowS {ops : Array Oper} {rest : List Oper} {o : Oper} {a : Act} {Q : Exit → Act → World → Prop} {w : World} (hgd : o.guard = none) (s x : Operand)
    (ho : o.op = .call { callee := .builtin .append, args := #[s, x], argTypes := #[29, 29] })
    (base : Nat) (v : Value) (n : Nat) (xs : List Value) (hs : a.eval s = v) (hown : w.ownsRow base 27 9 v n xs)
    (w0 : World) (la : Option Addr) (m c : Nat) (vs : List SV) (hx : a.eval x = .slice la m c) (hm : m = vs.length) (hr : Row w0 la vs) (hb : Below w0.heap.size w0 w) (hc : la = none → c = 0) (h1 : n ≤ 100000) (h2 : m ≤ 100000) (hbase : base ≤ w.heap.size)
    (h : ∀ v' w', w'.ownsRow base 27 9 v' (n + m) (xs ++ cells9 vs) → w.grownBy w' v.ownBlock → wpList Try.prog ops Q rest (a.put o.dst v') w') :
    wpList Try.prog ops Q (o :: rest) a w := by
  obtain ⟨i1, z1, hi1, hy0, hy1, hy2, hy3⟩ := info_wide Try.infoStI
  cases la with
  | none =>
    obtain rfl := hr.none
    obtain rfl := hc rfl
    subst hm
    refine wpList_append_own_none hgd s x 29 ho base 27 i1 9 Try.underlying29 hi1 v n xs hs hown hx (h v w ?_ ?_)
    · simpa [cells9] using hown
    · exact ⟨rfl, rfl, rfl, Nat.le_refl _, fun _ _ _ => rfl⟩
  | some ad =>
    exact wpList_append_own w hgd s x 29 ho base 27 i1 z1 9 104 Try.underlying29 hi1 hy0 hy1 hy2 hy3 (by omega) v n xs hs hown ad m c (cells9 vs) hx (by rw [cells9_len, hm]) (hr.news hb) (cells9_one vs) (by unfold maxLen; omega) (by omega) hbase (fun v' w' k1 k2 _ => h v' w' k1 k2)
/-- A row with its header's numbers. -/
structure RowS (w : World) (a : Option Addr) (n c : Nat) (vs : List SV) : Prop where
  row : Row w a vs
  len : n = vs.length
  cap : n ≤ c
  nil : a = Option.none → c = 0
theorem RowS.on {w X : World} {a : Option Addr} {n c : Nat} {vs : List SV} (h : RowS w a n c vs) (hb : Below w.heap.size w X) : RowS X a n c vs := ⟨h.row.on hb, h.len, h.cap, h.nil⟩
theorem Row.drop {w : World} {ad : Addr} {vs : List SV} (h : Row w (some ad) vs) (k : Nat) (a' : Option Addr) (ha : k < vs.length → a' = some (ad.add (k * 9))) : Row w a' (vs.drop k) :=
  ⟨fun j x hx => by
    rw [List.getElem?_drop] at hx
    obtain ⟨b, off, e, h1, h2⟩ := h.cells (k + j) x hx
    have hlt := (List.getElem?_eq_some_iff.1 hx).1
    cases e
    refine ⟨b, off + k * 9, by rw [ha (by omega), Addr.add_mid], h1, fun i u hi => ?_⟩
    have := h2 i u hi
    rw [show off + k * 9 + j * 9 + i = off + (k + j) * 9 + i by omega]; exact this, fun x hx => h.lies x (List.mem_of_mem_drop hx), fun x hx => h.fit x (List.mem_of_mem_drop hx), by have := h.len; rw [List.length_drop]; omega⟩
theorem rowS_own {w X : World} {v : Value} {n : Nat} {vs : List SV} (hn : n = vs.length) (h : X.ownsRow w.heap.size 27 9 v n (cells9 vs)) (hl : ∀ x ∈ vs, LiesI X x.s.sub.kids x.a x.c) (hf : ∀ x ∈ vs, foSize x.s.sub.kids + 1 ≤ 100000) (hlen : vs.length ≤ 1000000) : ∃ a c, v = .slice a n c ∧ RowS X a n c vs := by
  obtain ⟨a, c, rfl⟩ := owns_slice h
  refine ⟨a, c, rfl, row_own hn h hl hf hlen, hn, ?_, ?_⟩
  · rcases h.2 with ⟨hv, h0⟩ | ⟨g, cap, cur, hv, _, _, hc, _⟩
    · omega
    · cases hv; exact hc
  · intro ha
    subst ha
    rcases h.2 with ⟨hv, h0⟩ | ⟨g, cap, cur, hv, _⟩
    · cases hv; rfl
    · cases hv
end Go.Proofs.Ytpbjncljecfaeaa
