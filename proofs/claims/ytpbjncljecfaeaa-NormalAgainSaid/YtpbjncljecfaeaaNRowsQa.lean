/-
  Rows of steps that are appended and cut. No condition but that they are not too long.
-/
import Derived.Deep.Cut
import Derived.Laws.AppendOwnNone
import Derived.Test.YtpbjncljecfaeaaNBaseQa
import Derived.Test.YtpbjncljecfaeaaNBoxQa
namespace Go.Proofs.Ytpbjncljecfaeaa
open Go.RowKit Go.Shelf
set_option linter.unusedVariables false
set_option linter.unusedSimpArgs false

theorem Try.infoStI : (Try.prog.info? 27).map (fun i => (i.size, i.bytes, i.zero.map (fun z => z.cells.size))) = some (9, 104, some 9) := by kernel_rfl
/-- A row's cells, one behind the other. -/
def cells9 (vs : List SV) : List Value := vs.flatMap fun x => stepC x.s x.a x.c
theorem cells9_mk : ∀ {vs : List SV} {k j : Nat} {x : SV} {u : Value}, vs[k]? = some x → (stepC x.s x.a x.c)[j]? = some u → (cells9 vs)[k * 9 + j]? = some u
  | [], _, _, _, _, h, _ => by simp at h
  | y :: vs, 0, j, x, u, h, hu => by
    simp at h; subst h
    have e : cells9 (y :: vs) = stepC y.s y.a y.c ++ cells9 vs := rfl
    rw [e, Nat.zero_mul, Nat.zero_add, List.getElem?_append_left (List.getElem?_eq_some_iff.1 hu).1]; exact hu
  | y :: vs, k + 1, j, x, u, h, hu => by
    have e : cells9 (y :: vs) = stepC y.s y.a y.c ++ cells9 vs := rfl
    rw [e, List.getElem?_append_right (by simp [stepC]; omega)]
    have := cells9_mk (vs := vs) (k := k) (by simpa using h) hu
    rw [← this]; congr 1; simp [stepC]; omega
theorem cells9_one (vs : List SV) : ∀ u ∈ cells9 vs, u.oneCell' = true := fun u hu => by
  obtain ⟨x, _, h⟩ := List.mem_flatMap.1 hu
  simp only [stepC, List.mem_cons, List.not_mem_nil, or_false] at h
  rcases h with rfl | rfl | rfl | rfl | rfl | rfl | rfl | rfl | rfl <;> rfl
/-- A row of the call's own out of rows that lie in memory. -/
theorem row_own {w X : World} {a : Option Addr} {c n : Nat} {vs : List SV} (hn : n = vs.length) (h : X.ownsRow w.heap.size 27 9 (.slice a n c) n (cells9 vs)) (hl : ∀ x ∈ vs, LiesI X x.s.sub.kids x.a x.c) (hf : ∀ x ∈ vs, foSize x.s.sub.kids + 1 ≤ 100000) (hlen : vs.length ≤ 1000000) : Row X a vs :=
  ⟨fun k x hx => by
    have hpos : 0 < n := by have := (List.getElem?_eq_some_iff.1 hx).1; omega
    rcases h.2 with ⟨_, h0⟩ | ⟨g, cap, cur, e, _, hg, _⟩
    · omega
    · cases e
      exact ⟨g, 0, rfl, lt_of_heap hg, fun j u hj => by rw [Nat.zero_add]; exact owns_cell h rfl _ u (cells9_mk hx hj)⟩, hl, hf, hlen⟩
/-- A row with its header's numbers. -/
structure RowS (w : World) (a : Option Addr) (n c : Nat) (vs : List SV) : Prop where
  row : Row w a vs
  len : n = vs.length
  cap : n ≤ c
  nil : a = Option.none → c = 0
theorem RowS.on {w X : World} {a : Option Addr} {n c : Nat} {vs : List SV} (h : RowS w a n c vs) (hb : Below w.heap.size w X) : RowS X a n c vs := ⟨h.row.on hb, h.len, h.cap, h.nil⟩
theorem rowS_own {w X : World} {v : Value} {n : Nat} {vs : List SV} (hn : n = vs.length) (h : X.ownsRow w.heap.size 27 9 v n (cells9 vs)) (hl : ∀ x ∈ vs, LiesI X x.s.sub.kids x.a x.c) (hf : ∀ x ∈ vs, foSize x.s.sub.kids + 1 ≤ 100000) (hlen : vs.length ≤ 1000000) : ∃ a c, v = .slice a n c ∧ RowS X a n c vs := by
  obtain ⟨a, c, rfl⟩ := owns_slice h
  refine ⟨a, c, rfl, row_own hn h hl hf hlen, hn, ?_, ?_⟩
  · rcases h.2 with ⟨hv, h0⟩ | ⟨g, cap, cur, hv, _, _, hc, _⟩
    · omega
    · cases hv; exact hc
  · intro ha
    subst ha
    rcases h.2 with ⟨hv, h0⟩ | ⟨g, cap, cur, hv, _⟩
    · cases hv; rfl
    · cases hv
end Go.Proofs.Ytpbjncljecfaeaa
