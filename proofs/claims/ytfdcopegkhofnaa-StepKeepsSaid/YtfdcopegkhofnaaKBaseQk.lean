/-
  Path: the places from the root down to a node. No condition but that there are not too many nodes.
  Rows of numbers that lie in memory, nodes that do, and a tree with another one at a path, plainly. No condition.
-/
import Derived.Test.YtfdcopegkhofnaaGGreatQk
import Derived.Test.YtfdcopegkhofnaaVWalkQk
import Derived.Deep.RegionHeld3
import Derived.StillTailTactics
namespace Go.Proofs.Ytfdcopegkhofnaa
open Go.RowKit Go.Shelf
set_option linter.unusedVariables false
set_option linter.unusedSimpArgs false

def natI (p : List Nat) : List Int := p.map (fun n : Nat => (n : Int))
theorem natI_length (p : List Nat) : (natI p).length = p.length := by simp [natI]
theorem make_len (W : World) (q : Nat) (h : q ≤ 1000000) : ∃ zs : Array Value, zs.size = q ∧ (Instr.makeSlice 64 (.int .i64 (q : Int)) (.int .i64 (q : Int))).run Try.prog W = .ok (.slice (some ⟨W.heap.size, 0, none⟩) q q) (W.alloc (.cells zs 3)) := by
  obtain ⟨i0, hi, hz0, hz1, hz2⟩ := info_parts Try.infoInt
  have hr := run_makeSlice (P := Try.prog) W 64 3 i0 (.int .i64 0) Try.underlying64 hi hz0 .i64 .i64 (q : Int) (q : Int) (by omega) (by omega) (by rw [hz1]; omega) (by rw [hz2]; omega) (by omega)
  rw [hz1] at hr
  exact ⟨_, (size_madeCells _ _).trans (Nat.mul_one q), by rw [hr]; simp; rfl⟩
/-- A path of a call's own. -/
def PathC (w : World) (p : Option (List Nat)) (e : Ending) (w' : World) : Prop := ∃ v, e = .returned (.tuple #[v, .bool p.isSome]) ∧ w'.ownsRow w.heap.size 3 1 v (natI (p.getD [])).length ((natI (p.getD [])).map intV) ∧ Below w.heap.size w w'
/-- So many places are told. -/
def PathI (W : World) (w0 : World) (zs : Array Value) (p : List Nat) (k : Nat) (wr : World) : Prop := wr.ownsRow w0.heap.size 3 1 (.slice (some ⟨W.heap.size, 0, none⟩) p.length p.length) p.length (((natI p).map intV).take k ++ zs.toList.drop k) ∧ Below W.heap.size W wr
theorem PathI.step {W w0 wr : World} {zs : Array Value} {p : List Nat} {k x : Nat} {o : Obj} (h : PathI W w0 zs p k wr) (hz : zs.size = p.length) (hx : p[k]? = some x) : PathI W w0 zs p (k + 1) ((wr.setCell ⟨W.heap.size, k, none⟩ (.int .i64 (x : Int))).alloc o) := by
  have hk := (List.getElem?_eq_some_iff.1 hx).1
  have h2 := (World.ownsRow.stored h.1 k (.int .i64 (x : Int))).1
  have e : (((natI p).map intV).take k ++ zs.toList.drop k).set k (.int .i64 (x : Int)) = ((natI p).map intV).take (k + 1) ++ zs.toList.drop (k + 1) := by
    have hl : (((natI p).map intV).take k).length = k := by rw [List.length_take, List.length_map, natI_length]; omega
    rw [List.set_append_right _ _ (by omega), hl, Nat.sub_self]
    have hz2 : k < zs.toList.length := by rw [Array.length_toList]; omega
    rw [← List.getElem_cons_drop hz2, List.set_cons_zero, List.take_add_one]
    have h3 : ((natI p).map intV)[k]? = some (.int .i64 (x : Int)) := by rw [List.getElem?_map, natI, List.getElem?_map, hx]; rfl
    rw [h3]; simp
  rw [e] at h2
  have h4 := h.2.setCell (p := ⟨W.heap.size, k, none⟩) (Nat.le_refl _) (.int .i64 (x : Int))
  exact ⟨h2.alloc o, h4.alloc h4.size o⟩
set_option maxRecDepth 100000 in
set_option maxHeartbeats 2000000 in
theorem path_any (w : World) (S : Nat → Prop) (nv : Value) (t : Tr) (id : Int) (hS : ∀ x, S x → x < w.heap.size) (ht : TrAt w S nv t) (hsz : foSize t.kids ≤ 400000) : Calls Try.prog 63 #[nv, .int .i64 id] w (PathC w (pathT id t)) := by
  obtain ⟨ka, tc, rfl, hcap, hk⟩ := ht
  have hb := box_below w (.cells #[.int .i64 t.id, .int .i64 t.kind, .string t.text, .slice ka (foLen t.kids) tc] 24)
  have hway := way_any (w.alloc (.cells #[.int .i64 t.id, .int .i64 t.kind, .string t.text, .slice ka (foLen t.kids) tc] 24)) S _ t id (fun x hx => Nat.lt_of_lt_of_le (hS x hx) hb.size) ⟨ka, tc, rfl, hcap, hk.below hb hS⟩ hsz
  have HC := Lib.hid (And.intro hway hb)
  obtain ⟨n, hn⟩ : ∃ n, n = foLen t.kids := ⟨_, rfl⟩
  rw [← hn] at HC ⊢
  clear hway hb hk hcap hS hn
  go_enter Try.func63, Try.ntmps63
  go_wp2_with fail
  refine HC.out.1.mono ?_
  rintro e W ⟨rv, L, rfl, hw, hb, _⟩
  have hbW : Below w.heap.size w W := HC.out.2.trans (hb.mono HC.out.2.size)
  rcases hw.path with ⟨rfl, hp⟩ | ⟨p, hp, hpl, hlen⟩
  · obtain ⟨a, c, rfl⟩ := owns_slice hw.rows
    have HE := Lib.hid (And.intro hp hbW)
    clear hw hb hp hbW HC
    simp only [List.length_nil]
    go_wp2_with fail
    go_ret2
    exact ⟨.slice none 0 0, by rw [HE.out.1]; rfl, by rw [HE.out.1]; exact World.ownsRow_nil _ _ _ _, HE.out.2⟩
  · obtain ⟨m, hm⟩ : ∃ m, m = p.length := ⟨_, rfl⟩
    rw [← hm] at hlen
    obtain ⟨g, n2, cap, _, _, _, _, _, _, rfl, rfl, hnc, _⟩ := hw.at (k := 0) (by omega)
    have hfew := hw.few
    have hrow : ∀ (k x : Nat), p[k]? = some x → ∃ (a : Option Addr) (q c : Nat), W.cell? ⟨g, 2 + k * 2, none⟩ = some (.slice a q c) ∧ W.cell? ⟨g, 2 + k * 2 + 1, none⟩ = some (.int .i64 (x : Int)) := fun k x hx => by
      obtain ⟨g', _, _, b, off, q, c, pl, u2, e2, _, _, c0, c2, _, _, _, hpk2, _⟩ := hw.at (k := k + 1) (by have := (List.getElem?_eq_some_iff.1 hx).1; omega)
      cases e2
      rw [hpl, List.getElem?_cons_succ, hx] at hpk2
      cases hpk2
      rw [show (k + 1) * 2 = 2 + k * 2 by omega] at c0 c2
      exact ⟨_, _, _, c0, c2⟩
    rw [hlen]
    rw [hlen] at hnc hfew
    obtain ⟨zs, hzs, hmk⟩ := make_len W m (by omega)
    have hgl : g < W.heap.size := (owns_bounds hw.rows (g := g) rfl).2
    have HST : Hid (PathI W w zs p 0 (W.alloc (.cells zs 3))) := Lib.hid ⟨⟨by rw [List.take_zero, List.nil_append, List.drop_zero, Array.length_toList]; omega, Or.inr ⟨W.heap.size, p.length, zs, rfl, hbW.size, heap_alloc_new W _, Nat.le_refl _, by unfold maxLen; omega, by omega, by rw [List.take_zero, List.nil_append, List.drop_zero]; rw [List.take_of_length_le (by rw [Array.length_toList]; omega)]⟩⟩, box_below W _⟩
    have HE := Lib.hid (And.intro hp (And.intro hbW (And.intro hm (And.intro hrow hzs))))
    have hmb : m ≤ 1000000 := by omega
    have hmz : ((m : Int) + 1 == 0) = false := by simp; omega
    have hmw : IntKind.i64.wrap (m : Int) = (m : Int) := IntWalk.i64_in _ (by omega)
    have hm1 : (1 : Int) ≤ (m : Int) + 1 := by omega
    have hcc : (m : Int) + 1 ≤ (cap : Int) := by omega
    clear hw hb hp hbW HC hlen hpl hrow hzs hfew hm
    go_wp2_with fail
    all_goals
      go_loopw [23] (fun i wr => ∃ k : Nat, k ≤ m ∧ i = .int .i64 (k : Int) ∧ Hid (PathI W w zs p k wr)) (fun i _ => m - (intOf i).toNat)
      case atStart => exact ⟨0, Nat.zero_le _, rfl, HST⟩
      case round =>
        obtain ⟨k, hk, rfl, hh⟩ := hrel
        clear HST
        by_cases hlt : k < m
        · first
            | (exfalso; omega)
            | (obtain ⟨x, hx⟩ : ∃ x, p[k]? = some x := ⟨_, List.getElem?_eq_getElem (by rw [← HE.out.2.2.1]; exact hlt)⟩
               obtain ⟨a, q, c, c0, c1⟩ := HE.out.2.2.2.1 k x hx
               obtain ⟨v0, hv0⟩ : ∃ v0, zs.toList[k]? = some v0 := ⟨_, List.getElem?_eq_getElem (by rw [Array.length_toList, HE.out.2.2.2.2]; exact hlt)⟩
               have hown := hh.out.1
               have hcell := World.ownsRow.cellAt hown k (by rw [← HE.out.2.2.1]; omega)
               have hfz := World.ownsRow.frozenAt hown k
               rw [List.getElem?_append_right (by rw [List.length_take, List.length_map, natI_length]; omega), List.length_take, List.length_map, natI_length, List.getElem?_drop, show k + (k - min k p.length) = k by (have := HE.out.2.2.1; omega), hv0] at hcell
               have d0 : wr.cell? ⟨g, 2 + k * 2, none⟩ = some (.slice a q c) := (hh.out.2.cell (p := ⟨g, 2 + k * 2, none⟩) hgl).trans c0
               have d1 : wr.cell? ⟨g, 2 + k * 2 + 1, none⟩ = some (.int .i64 (x : Int)) := (hh.out.2.cell (p := ⟨g, 2 + k * 2 + 1, none⟩) hgl).trans c1
               have hWl : W.heap.size < wr.heap.size := (World.block_lt_of_cell? _ _ hcell)
               have hcellA : ∀ o, (wr.alloc o).cell? ⟨W.heap.size, k, none⟩ = some v0 := fun o => (World.cell?_of_block (Below.heap_alloc wr o W.heap.size hWl)).trans hcell
               have hfzA : ∀ o, (wr.alloc o).frozen? ⟨W.heap.size, k, none⟩ = false := fun o => (World.frozen?_of_block (Below.heap_alloc wr o W.heap.size hWl)).trans hfz
               have hnx := fun o => hh.out.step (o := o) (by rw [HE.out.2.2.2.2]; exact HE.out.2.2.1) hx
               have HN := Lib.hid hnx
               have hki : (k : Int) < (m : Int) := by omega
               have HLT := Lib.hid hlt
               clear hx c0 c1 hv0 hown hcell hfz hnx hlt hk hh
               go_wp2_with fail
               exact ⟨⟨k + 1, by have := HLT.out; omega, by go_num, Lib.hid (HN.out _)⟩, by have := HLT.out; simp [intOf]; omega⟩)
        · have hki : ¬ (k : Int) < (m : Int) := by omega
          have hkm : k = m := by omega
          have HO := Lib.hid (And.intro hh.out hkm)
          clear hh hk hlt hkm
          go_wp2_with fail
          go_ret2
          obtain ⟨⟨ho, hb9⟩, hkm⟩ := HO.out
          refine ⟨.slice (some ⟨W.heap.size, 0, none⟩) m m, by rw [HE.out.1]; rfl, ?_, HE.out.2.1.trans (hb9.mono HE.out.2.1.size)⟩
          rw [HE.out.1]
          show World.ownsRow _ _ _ _ _ (natI p).length ((natI p).map intV)
          rw [natI_length]
          rw [List.take_of_length_le (by rw [List.length_map, natI_length]; have := HE.out.2.2.1; omega), List.drop_eq_nil_of_le (by rw [Array.length_toList]; have := HE.out.2.2.2.2; omega), List.append_nil] at ho
          rw [HE.out.2.2.1]
          exact ho
end Go.Proofs.Ytfdcopegkhofnaa
namespace Go.Proofs.Ytfdcopegkhofnaa
open Go.RowKit Go.Shelf
set_option linter.unusedVariables false
set_option linter.unusedSimpArgs false

/-- A row of numbers of anybody's. -/
def IntsL (w : World) (S : Nat → Prop) (a : Option Addr) (cap : Nat) (l : List Int) : Prop := l.length ≤ cap ∧ (l = [] ∨ ∃ b off, a = some ⟨b, off, none⟩ ∧ S b ∧ ∀ k x, l[k]? = some x → w.cell? ⟨b, off + k, none⟩ = some (.int .i64 x))
theorem IntsL.kept {w w' : World} {S S' : Nat → Prop} {a : Option Addr} {cap : Nat} {l : List Int} (h : IntsL w S a cap l) (hS : ∀ k, S k → S' k ∧ w'.heap[k]? = w.heap[k]?) : IntsL w' S' a cap l := by
  obtain ⟨h0, h1⟩ := h
  refine ⟨h0, h1.imp (fun h => h) ?_⟩
  rintro ⟨b, off, e, hb, hc⟩
  exact ⟨b, off, e, (hS b hb).1, fun k x hx => (World.cell?_of_block (hS b hb).2).trans (hc k x hx)⟩
theorem IntsL.take {w : World} {S : Nat → Prop} {a : Option Addr} {cap : Nat} {l : List Int} (h : IntsL w S a cap l) (m : Nat) : IntsL w S a cap (l.take m) := by
  obtain ⟨h0, h1⟩ := h
  refine ⟨by rw [List.length_take]; omega, ?_⟩
  rcases h1 with h1 | ⟨b, off, e, hb, hc⟩
  · exact Or.inl (by rw [h1]; simp)
  · exact Or.inr ⟨b, off, e, hb, fun k x hx => hc k x (by
      rw [List.getElem?_take] at hx
      split at hx
      · exact hx
      · cases hx)⟩
theorem intsL_own {w : World} {B : Nat} {a : Option Addr} {cap n : Nat} {l : List Int} (h : w.ownsRow B 3 1 (.slice a n cap) n (l.map intV)) : IntsL w (fun y => B ≤ y ∧ y < w.heap.size) a cap l ∧ n = l.length := by
  have hl : n = l.length := by have := h.1; rw [List.length_map] at this; omega
  rcases h.2 with ⟨hv, h0⟩ | ⟨g, c', cur, hv, hB, hh, h3, h4, h5, h6⟩
  · cases hv
    exact ⟨⟨by omega, Or.inl (List.length_eq_zero_iff.1 (by omega))⟩, hl⟩
  · cases hv
    refine ⟨⟨by omega, Or.inr ⟨g, 0, rfl, ⟨hB, lt_of_some hh⟩, fun k x hx => ?_⟩⟩, hl⟩
    rw [Nat.zero_add]
    exact owns_cell h rfl k _ (by rw [List.getElem?_map, hx]; rfl)
theorem IntsL.drop {w : World} {S : Nat → Prop} {b off cap : Nat} {l : List Int} (h : IntsL w S (some ⟨b, off, none⟩) cap l) (m : Nat) : IntsL w S (some ⟨b, off + m, none⟩) (cap - m) (l.drop m) := by
  obtain ⟨h0, h1⟩ := h
  refine ⟨by rw [List.length_drop]; omega, ?_⟩
  rcases h1 with h1 | ⟨b', off', e, hb, hc⟩
  · exact Or.inl (by rw [h1]; simp)
  · cases e
    refine Or.inr ⟨b, off + m, rfl, hb, fun k x hx => ?_⟩
    rw [List.getElem?_drop] at hx
    have := hc (m + k) x hx
    rw [Nat.add_assoc]; exact this
theorem IntsL.cap {w : World} {S : Nat → Prop} {a : Option Addr} {cap cap' : Nat} {l : List Int} (h : IntsL w S a cap l) (hc : l.length ≤ cap') : IntsL w S a cap' l := ⟨hc, h.2⟩
/-- A node lies at an address. -/
def NodeAt (w : World) (S : Nat → Prop) (u : Tr) (b off : Nat) : Prop := S b ∧ w.cell? ⟨b, off, none⟩ = some (.int .i64 u.id) ∧ w.cell? ⟨b, off + 1, none⟩ = some (.int .i64 u.kind) ∧ w.cell? ⟨b, off + 2, none⟩ = some (.string u.text) ∧ ∃ ka kc, w.cell? ⟨b, off + 3, none⟩ = some (.slice ka (foLen u.kids) kc) ∧ foLen u.kids ≤ kc ∧ FoAt w S u.kids ka
theorem NodeAt.kept {w w' : World} {S S' : Nat → Prop} {u : Tr} {b off : Nat} (h : NodeAt w S u b off) (hS : ∀ y, S y → S' y ∧ w'.heap[y]? = w.heap[y]?) : NodeAt w' S' u b off := by
  obtain ⟨h0, h1, h2, h3, ka, kc, h4, h5, h6⟩ := h
  have hb := hS b h0
  exact ⟨hb.1, (World.cell?_of_block hb.2).trans h1, (World.cell?_of_block hb.2).trans h2, (World.cell?_of_block hb.2).trans h3, ka, kc, (World.cell?_of_block hb.2).trans h4, h5, h6.kept hS⟩
/-- Its kids. -/
theorem NodeAt.kid {w : World} {S : Nat → Prop} {u v : Tr} {b off j : Nat} (h : NodeAt w S u b off) (hv : kidF u.kids j = some v) : ∃ g go gc, w.cell? ⟨b, off + 3, none⟩ = some (.slice (some ⟨g, go, none⟩) (foLen u.kids) gc) ∧ NodeAt w S v g (go + j * 4) := by
  obtain ⟨h0, h1, h2, h3, ka, kc, h4, h5, h6⟩ := h
  obtain ⟨b0, o0, key, l, r, hd, g, go, na, nc, rfl, hg, c0, c1, c2, c3, hc, hl⟩ := h6.at j (kidF_some hv)
  have : v = ⟨key.1, key.2.1, key.2.2, l⟩ := by rw [kidF, hd] at hv; cases hv; rfl
  subst this
  exact ⟨g, go, kc, h4, hg, c0, c1, c2, na, nc, c3, hc, hl⟩
/-- A row with another node at a place. -/
def setF : Fo → Nat → Tr → Fo
  | .nil, _, _ => .nil
  | .node b o k l r, 0, u => .node b o (u.id, u.kind, u.text) u.kids r
  | .node b o k l r, i + 1, u => .node b o k l (setF r i u)
def putP : Tr → List Nat → Tr → Tr
  | _, [], x => x
  | t, i :: p, x => match kidF t.kids i with
    | none => t
    | some u => ⟨t.id, t.kind, t.text, setF t.kids i (putP u p x)⟩
theorem setF_len : ∀ (f : Fo) (i : Nat) (u : Tr), foLen (setF f i u) = foLen f
  | .nil, _, _ => rfl
  | .node _ _ _ _ _, 0, _ => rfl
  | .node _ _ _ _ r, i + 1, u => by simp [setF, foLen, setF_len r i u]
theorem atT_append : ∀ (p : List Nat) (t : Tr) (r : List Nat), atT t (p ++ r) = (atT t p).bind fun u => atT u r
  | [], t, r => rfl
  | i :: p, t, r => by
    simp only [List.cons_append, atT]
    cases kidF t.kids i with
    | none => rfl
    | some u => exact atT_append p u r
/-- Further down the same path. -/
theorem putP_append : ∀ (p : List Nat) (t u v x : Tr) (i : Nat), atT t p = some u → kidF u.kids i = some v → putP t (p ++ [i]) x = putP t p ⟨u.id, u.kind, u.text, setF u.kids i x⟩
  | [], t, u, v, x, i, h, hv => by cases h; simp [putP, hv]
  | j :: p, t, u, v, x, i, h, hv => by
    simp only [atT] at h
    simp only [List.cons_append, putP]
    cases hk : kidF t.kids j with
    | none => simp [hk] at h
    | some w => rw [hk] at h; simp only at h ⊢; rw [putP_append p w u v x i h hv]
/-- The row but for its i-th node lies there. -/
def ButAt (w : World) (S : Nat → Prop) : Nat → Fo → Nat → Nat → Prop
  | _, .nil, _, _ => True
  | 0, .node _ _ _ _ r, b, off => FoAt w S r (some ⟨b, off + 4, none⟩)
  | i + 1, .node _ _ k l r, b, off => NodeAt w S ⟨k.1, k.2.1, k.2.2, l⟩ b off ∧ ButAt w S i r b (off + 4)
theorem but_fill : ∀ (f : Fo) (i : Nat) {w : World} {S : Nat → Prop} {u : Tr} {b off : Nat}, ButAt w S i f b off → NodeAt w S u b (off + i * 4) → i < foLen f → FoAt w S (setF f i u) (some ⟨b, off, none⟩)
  | .nil, _, _, _, _, _, _, _, _, h => by simp [foLen] at h
  | .node _ _ k l r, 0, w, S, u, b, off, h, hn, _ => by
    obtain ⟨h0, h1, h2, h3, ka, kc, h4, h5, h6⟩ := hn
    simp only [Nat.zero_mul, Nat.add_zero] at h1 h2 h3 h4
    exact ⟨b, off, ka, kc, rfl, h0, h1, h2, h3, h4, h5, h6, h⟩
  | .node _ _ k l r, i + 1, w, S, u, b, off, h, hn, hi => by
    obtain ⟨⟨h0, h1, h2, h3, ka, kc, h4, h5, h6⟩, hr⟩ := h
    refine ⟨b, off, ka, kc, rfl, h0, h1, h2, h3, h4, h5, h6, but_fill r i hr ?_ (by simp [foLen] at hi; omega)⟩
    rw [show off + 4 + i * 4 = off + (i + 1) * 4 by omega]; exact hn
/-- A row that was put elsewhere, but for its i-th node. -/
theorem but_row : ∀ (f : Fo) (i : Nat) (xs : List Value) {w w' : World} {S S' : Nat → Prop} {b off : Nat}, FoRow w S f xs → i < foLen f → S' b → (∀ y, S y → S' y ∧ w'.heap[y]? = w.heap[y]?) → (∀ j u, xs[j]? = some u → (j < i * 4 ∨ i * 4 + 4 ≤ j) → w'.cell? ⟨b, off + j, none⟩ = some u) → ButAt w' S' i f b off
  | .nil, _, _, _, _, _, _, _, _, _, h, _, _, _ => by simp [foLen] at h
  | .node _ _ k l r, 0, xs, w, w', S, S', b, off, hf, _, hb, hS, hc => by
    obtain ⟨ka, cap, ys, e, hcp, hkl, hr⟩ := hf
    subst e
    refine FoRow.lies hb (off + 4) (hr.kept hS) fun j u hu => ?_
    have := hc (j + 4) u (by rw [List.getElem?_append_right (by simp)]; simpa using hu) (Or.inr (by omega))
    rw [show off + 4 + j = off + (j + 4) by omega]; exact this
  | .node _ _ k l r, i + 1, xs, w, w', S, S', b, off, hf, hi, hb, hS, hc => by
    obtain ⟨ka, cap, ys, e, hcp, hkl, hr⟩ := hf
    subst e
    refine ⟨⟨hb, hc 0 _ rfl (Or.inl (by omega)), hc 1 _ rfl (Or.inl (by omega)), hc 2 _ rfl (Or.inl (by omega)), ka, cap, hc 3 _ rfl (Or.inl (by omega)), hcp, hkl.kept hS⟩, but_row r i ys hr (by simp [foLen] at hi; omega) hb hS fun j u hu hj => ?_⟩
    have := hc (j + 4) u (by rw [List.getElem?_append_right (by simp)]; simpa using hu) (by omega)
    rw [show off + 4 + j = off + (j + 4) by omega]; exact this
/-- The cells of a row that lies there. -/
theorem fo_row : ∀ (f : Fo) {w : World} {S : Nat → Prop} {b off : Nat}, FoAt w S f (some ⟨b, off, none⟩) → ∃ xs, FoRow w S f xs ∧ xs.length = foLen f * 4 ∧ (∀ j u, xs[j]? = some u → w.cell? ⟨b, off + j, none⟩ = some u) ∧ ∀ u ∈ xs, u.oneCell' = true
  | .nil, _, _, _, _, _ => ⟨[], rfl, rfl, fun _ _ h => by simp at h, fun _ h => by cases h⟩
  | .node _ _ k l r, w, S, b, off, h => by
    obtain ⟨b', off', ka, kc, e, hb, c0, c1, c2, c3, hcp, hkl, hr⟩ := h
    cases e
    obtain ⟨ys, h1, h2, h3, h4⟩ := fo_row r hr
    refine ⟨[.int .i64 k.1, .int .i64 k.2.1, .string k.2.2, .slice ka (foLen l) kc] ++ ys, ⟨ka, kc, ys, rfl, hcp, hkl, h1⟩, by rw [List.length_append, h2]; simp [foLen]; omega, fun j u hu => ?_, fun u hu => ?_⟩
    · match j, hu with
      | 0, hu => simp at hu; subst hu; exact c0
      | 1, hu => simp at hu; subst hu; exact c1
      | 2, hu => simp at hu; subst hu; exact c2
      | 3, hu => simp at hu; subst hu; exact c3
      | j + 4, hu =>
        have := h3 j u (by simpa using hu)
        rw [show off + (j + 4) = off + 4 + j by omega]; exact this
    · rcases List.mem_append.1 hu with hu | hu
      · simp only [List.mem_cons, List.not_mem_nil, or_false] at hu
        rcases hu with rfl | rfl | rfl | rfl <;> rfl
      · exact h4 u hu
theorem fo_row' (f : Fo) {w : World} {S : Nat → Prop} {a : Option Addr} (h : FoAt w S f a) : ∃ xs, FoRow w S f xs ∧ xs.length = foLen f * 4 ∧ (∀ ad, a = some ad → ∀ j u, xs[j]? = some u → w.cell? (ad.add j) = some u) ∧ (∀ u ∈ xs, u.oneCell' = true) := by
  cases f with
  | nil => exact ⟨[], rfl, rfl, fun _ _ _ _ h => by simp at h, fun _ h => by cases h⟩
  | node b0 o0 k l r =>
    have h' := h
    obtain ⟨b', off', ka, kc, e, _⟩ := h'
    subst e
    obtain ⟨xs, h1, h2, h3, h4⟩ := fo_row _ h
    exact ⟨xs, h1, h2, fun ad hd j u hu => by cases hd; rw [Addr.add_mid]; exact h3 j u hu, h4⟩
theorem kidF_size {f : Fo} {i : Nat} {u : Tr} (h : kidF f i = some u) : foSize u.kids + 1 ≤ foSize f := by
  have h2 := foDrop_size h
  have h3 : ∀ (j : Nat) (f : Fo), foSize (foDrop j f) ≤ foSize f := by
    intro j
    induction j with
    | zero => intro f; rw [foDrop_zero]; exact Nat.le_refl _
    | succ j ih => intro f; cases f with
      | nil => exact Nat.le_refl _
      | node b o a l r => have := ih r; simp only [foDrop, foSize]; omega
  have := h3 i f
  omega
theorem setF_size2 : ∀ (f : Fo) (i : Nat) (u v : Tr), kidF f i = some u → foSize (setF f i v) + foSize u.kids = foSize f + foSize v.kids
  | .nil, i, _, _, h => by cases i <;> simp [kidF, foDrop, headT] at h
  | .node _ _ k l r, 0, u, v, h => by
    simp only [kidF, foDrop, headT] at h
    cases h
    simp only [setF, foSize]; omega
  | .node _ _ k l r, i + 1, u, v, h => by
    have := setF_size2 r i u v (by simpa [kidF, foDrop] using h)
    simp only [setF, foSize]; omega
end Go.Proofs.Ytfdcopegkhofnaa
