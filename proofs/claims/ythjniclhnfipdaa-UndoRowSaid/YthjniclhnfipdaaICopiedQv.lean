/-
  A tree in memory of its own: what comes is the same tree. No condition but that there are not too many nodes.
-/
import Derived.Deep.LoopGhost
import Derived.Test.YthjniclhnfipdaaIOwnQv
import Derived.Test.YthjniclhnfipdaaKAlongBQv
namespace Go.Proofs.Ythjniclhnfipdaa
open Go.RowKit Go.Shelf
set_option linter.unusedVariables false
set_option linter.unusedSimpArgs false

/-- A row that waits. -/
structure Wr where
  a : Option Addr
  f : Fo
  cap : Nat
def Wr.v (x : Wr) : Value := .slice x.a (foLen x.f) x.cap
def wsum : List Wr → Nat
  | [] => 0
  | x :: l => foSize x.f + 1 + wsum l
theorem wsum_append : ∀ (l m : List Wr), wsum (l ++ m) = wsum l + wsum m
  | [], m => by simp [wsum]
  | x :: l, m => by simp only [List.cons_append, wsum, wsum_append l m]; omega
theorem wsum_len : ∀ l : List Wr, l.length ≤ wsum l
  | [] => Nat.le_refl _
  | x :: l => by have := wsum_len l; simp only [List.length_cons, wsum]; omega
def RowW (S : Nat → Prop) (w X : World) (r : Wr) : Prop := foLen r.f ≤ r.cap ∧ FoAt X (SN S w.heap.size X) r.f r.a ∧ (0 < foLen r.f → ∃ g, r.a = some ⟨g, 0, none⟩ ∧ w.heap.size + 3 ≤ g ∧ NB X g)
structure CpI (S : Nat → Prop) (w : World) (t : Tr) (L : List Wr) (X : World) : Prop where
  wait : ∃ a c, X.heap[w.heap.size + 1 + 1]? = some (.cells #[.slice a L.length c] 144 (0, 0)) ∧ X.ownsRow (w.heap.size + 3) 22 1 (.slice a L.length c) L.length (L.map Wr.v)
  root : ∃ ka kc, X.heap[w.heap.size]? = some (.cells #[.int .i64 t.id, .int .i64 t.kind, .string t.text, .slice ka (foLen t.kids) kc] 24 (0, 0)) ∧ foLen t.kids ≤ kc ∧ FoAt X (SN S w.heap.size X) t.kids ka
  res : X.heap[w.heap.size + 1]? = some (.cells #[.int .i64 0, .int .i64 0, .string ⟨#[]⟩, .slice none 0 0] 24 (0, 0))
  rows : ∀ r ∈ L, RowW S w X r
  below : Below w.heap.size w X
  size : w.heap.size + 3 ≤ X.heap.size
theorem owns_popI {w : World} {B g n cap : Nat} {e : TypeId} {xs : List Value} {u : Value} (h : w.ownsRow B e 1 (.slice (some ⟨g, 0, none⟩) (n + 1) cap) (n + 1) (xs ++ [u])) (hn : n = xs.length) : w.ownsRow B e 1 (.slice (some ⟨g, 0, none⟩) n cap) n xs := by
  rcases h.2 with ⟨hv, _⟩ | ⟨g', cap', cur, hv, hB, hh, h3, h4, h5, h6⟩
  · cases hv
  · cases hv
    refine ⟨by omega, Or.inr ⟨g, cap, cur, rfl, hB, hh, by omega, h4, h5, ?_⟩⟩
    have h7 : (cur.toList.take ((n + 1) * 1)).take (n * 1) = (xs ++ [u]).take (n * 1) := by rw [h6]
    rw [List.take_take, Nat.min_eq_left (by omega)] at h7
    rw [h7, List.take_left' (by omega)]
/-- A call of the closure: one row more waits. -/
theorem CpI.own {S : Nat → Prop} {w X V : World} {t : Tr} {L : List Wr} {wa : Option Addr} {wc b off : Nat} {f : Fo} (h : CpI S w t L X) (hw : X.heap[w.heap.size + 1 + 1]? = some (.cells #[.slice wa L.length wc] 144 (0, 0))) (hrow : X.ownsRow (w.heap.size + 3) 22 1 (.slice wa L.length wc) L.length (L.map Wr.v))
    (hb : (b = w.heap.size ∧ off = 0 ∧ f = t.kids) ∨ w.heap.size + 3 ≤ b) (o : OwnR S w.heap.size (w.heap.size + 1 + 1) (w.heap.size + 3) X wa L.length wc (L.map Wr.v) b off f V) : ∃ r, r.f = f ∧ CpI S w t (L ++ [r]) V ∧ (∀ l a, FoAt X (SN S w.heap.size X) l a → FoAt V (SN S w.heap.size V) l a) ∧ ∀ y, NB X y → NB V y := by
  obtain ⟨wa', wc', ka', kc', o1, o2, o3, o4, o5, ⟨o6, o7, o8, o9⟩, oa, ob, oc, od⟩ := o
  have hs := h.size
  have hne : ∀ y, y < w.heap.size + 3 → some y ≠ (Value.slice wa L.length wc).ownBlock := fun y hy e => by have := (owns_bounds hrow e.symm).1; omega
  refine ⟨⟨ka', f, kc'⟩, rfl, ⟨?_, ?_, ?_, fun r hr => ?_, ⟨o7.trans h.below.os, o8.trans h.below.tape, o9.trans h.below.output, Nat.le_trans h.below.size o6, fun y hy => ?_⟩, by omega⟩, oa, ob⟩
  · refine ⟨wa', wc', ?_, ?_⟩
    · rw [List.length_append, List.length_singleton]; exact o1
    · rw [List.length_append, List.length_singleton, List.map_append]; exact o2
  · obtain ⟨ka, kc, r1, r2, r3⟩ := h.root
    rcases hb with ⟨rfl, rfl, rfl⟩ | hb
    · exact ⟨ka', kc', by rw [o5 _ r1]; simp, o3, oc⟩
    · exact ⟨ka, kc, (o4 _ (by omega) (by omega) (by omega) (hne _ (by omega))).trans r1, r2, oa _ _ r3⟩
  · refine (o4 _ (by omega) ?_ (by omega) (hne _ (by omega))).trans h.res
    rcases hb with ⟨rfl, _⟩ | hb <;> omega
  · rcases List.mem_append.1 hr with hr | hr
    · obtain ⟨h1, h2, h3⟩ := h.rows r hr
      exact ⟨h1, oa _ _ h2, fun h0 => by obtain ⟨g, e, hg, hn⟩ := h3 h0; exact ⟨g, e, hg, ob g hn⟩⟩
    · have : r = ⟨ka', f, kc'⟩ := by simpa using hr
      subst this
      exact ⟨o3, oc, fun h0 => by obtain ⟨g, e, hg, hn⟩ := od h0; exact ⟨g, e, by omega, hn⟩⟩
  · refine (o4 y (by omega) ?_ (by omega) (hne _ (by omega))).trans (h.below.block y hy)
    rcases hb with ⟨rfl, _⟩ | hb <;> omega
/-- The last row is taken. -/
theorem CpI.pop {S : Nat → Prop} {w X : World} {t : Tr} {L : List Wr} {r : Wr} {g wc n : Nat} (h : CpI S w t (L ++ [r]) X) (hS : ∀ y, S y → y < w.heap.size) (hn : n = L.length) (hw : X.heap[w.heap.size + 1 + 1]? = some (.cells #[.slice (some ⟨g, 0, none⟩) (n + 1) wc] 144 (0, 0))) (hrow : X.ownsRow (w.heap.size + 3) 22 1 (.slice (some ⟨g, 0, none⟩) (n + 1) wc) (n + 1) ((L ++ [r]).map Wr.v)) :
    CpI S w t L (X.setCell ⟨w.heap.size + 1 + 1, 0, none⟩ (.slice (some ⟨g, 0, none⟩) n wc)) ∧ RowW S w (X.setCell ⟨w.heap.size + 1 + 1, 0, none⟩ (.slice (some ⟨g, 0, none⟩) n wc)) r := by
  obtain ⟨V, hV⟩ : ∃ V, V = X.setCell ⟨w.heap.size + 1 + 1, 0, none⟩ (.slice (some ⟨g, 0, none⟩) n wc) := ⟨_, rfl⟩
  have ho : ∀ y, y ≠ w.heap.size + 1 + 1 → V.heap[y]? = X.heap[y]? := fun y hy => by rw [hV]; exact Below.heap_setCell _ _ _ _ hy
  have hk : ∀ y, SN S w.heap.size X y → SN S w.heap.size V y ∧ V.heap[y]? = X.heap[y]? := fun y hy => by
    have hne : y ≠ w.heap.size + 1 + 1 := fun e => by
      rcases hy with hy | ⟨_, _, cs, hcs⟩
      · have := hS y hy; omega
      · exact absurd (ty_eq (by rw [e]; exact hw) hcs) (by decide)
    exact ⟨hy.imp (fun h => h) (fun h => ⟨h.1, h.2.1, h.2.2.of_eq (ho y hne)⟩), ho y hne⟩
  have hrw : ∀ x ∈ L ++ [r], RowW S w V x := fun x hx => by
    obtain ⟨h1, h2, h3⟩ := h.rows x hx
    exact ⟨h1, h2.kept hk, fun h0 => by obtain ⟨g', e, hg, hN⟩ := h3 h0; exact ⟨g', e, hg, (hN.of_eq (ho g' (by omega)))⟩⟩
  rw [← hV]
  have hs := h.size
  have hgb := owns_bounds hrow (g := g) rfl
  refine ⟨⟨⟨some ⟨g, 0, none⟩, wc, ?_, ?_⟩, ?_, (ho _ (by omega)).trans h.res, fun x hx => hrw x (List.mem_append_left _ hx), ?_, ?_⟩, hrw r (by simp)⟩
  · rw [hV, heap_setCell_same X _ 0 _ _ _ hw, ← hn]; simp
  · rw [← hn]
    have h1 := owns_kept (w' := V) hrow (fun g' cur hc hg' => ho g' (by simp only [Value.ownBlock, Option.some.injEq] at hg'; omega))
    rw [List.map_append, List.map_cons, List.map_nil] at h1
    exact owns_popI h1 (by rw [List.length_map]; exact hn)
  · obtain ⟨ka, kc, r1, r2, r3⟩ := h.root
    exact ⟨ka, kc, (ho _ (by omega)).trans r1, r2, r3.kept hk⟩
  · rw [hV]; exact h.below.setCell (by simp only; omega) _
  · rw [hV]; simp [World.setCell]; omega
theorem nil_or_snocW : ∀ (L : List Wr), L = [] ∨ ∃ A s, L = A ++ [s] := fun L => by
  rcases List.eq_nil_or_concat L with h | ⟨A, s, h⟩
  · exact Or.inl h
  · exact Or.inr ⟨A, s, by simpa using h⟩
theorem results_cellI {P : Program} {fn : Func} {p : Tmp} {ty : TypeId} (h : fn.results = #[.cell p ty]) (tmps : Array Value) (w : World) (g : Nat) (t : TypeId) (cs : Array Value) (fr : Nat × Nat) (d : TypeDesc)
    (hp : tmps.getD p undef = .pointer (some ⟨g, 0, none⟩)) (hg : w.heap[g]? = some (.cells cs t fr)) (hu : P.underlying ty = some d) (hd : (match d with | .struct _ | .array _ _ => true | _ => false) = true) (hi : (P.info? ty).map (·.size) = some cs.size) :
    (results fn tmps).run P w = .ok (.agg cs) w := by
  have hp' : tmps[p]?.getD undef = .pointer (some ⟨g, 0, none⟩) := by simpa using hp
  simp [results, h, hp', asAddr, run_loadVar_row w g t ty cs fr d hg hu hd hi]
/-- The same tree, in its own blocks or in new ones. -/
def CopiedC (w : World) (S : Nat → Prop) (t : Tr) (e : Ending) (w' : World) : Prop := ∃ v, e = .returned v ∧ TrAt w' (fun y => (S y ∨ w.heap.size ≤ y) ∧ y < w'.heap.size) v t ∧ Below w.heap.size w w'
theorem foTake_size {f : Fo} {k : Nat} {u : Tr} (h : kidF f k = some u) : foSize (foTake (k + 1) f) = foSize (foTake k f) + foSize u.kids + 1 := by
  have := congrArg List.length (idF_take f k u h)
  rw [List.length_append, idF_length, idF_length, idT_length] at this
  omega
theorem foTake_le : ∀ (j : Nat) (f : Fo), foSize (foTake j f) ≤ foSize f
  | 0, f => by cases f <;> simp [foTake, foSize]
  | j + 1, .nil => by simp [foTake, foSize]
  | j + 1, .node _ _ _ l r => by have := foTake_le j r; simp only [foTake, foSize]; omega
set_option maxRecDepth 100000 in
set_option maxHeartbeats 8000000 in
theorem copied_any (w : World) (S : Nat → Prop) (nv : Value) (t : Tr) (hS : ∀ y, S y → y < w.heap.size) (ht : TrAt w S nv t) (hsz : foSize t.kids ≤ 100000) : Calls Try.prog 149 #[nv] w (CopiedC w S t) := by
  obtain ⟨ka, tc, rfl, hcap, hk⟩ := ht
  obtain ⟨nk, hnk⟩ : ∃ nk, nk = foLen t.kids := ⟨_, rfl⟩
  rw [← hnk]
  have hmf : ∀ (fn : Fn) (first cap : Array Value) (w : World), (Instr.makeFunc fn first cap).run Try.prog w = .ok (.func fn first cap) w := fun _ _ _ _ => rfl
  obtain ⟨B, hB⟩ : ∃ B, B = allocs w [.cells #[.int .i64 t.id, .int .i64 t.kind, .string t.text, .slice ka nk tc] 24, .cells #[.int .i64 0, .int .i64 0, .string ⟨#[]⟩, .slice none 0 0] 24, .cells #[.slice none 0 0] 144] := ⟨_, rfl⟩
  have hb : Below w.heap.size w B := by rw [hB]; exact allocs_below _ _
  have hs : B.heap.size = w.heap.size + 3 := by rw [hB]; exact allocs_size _ _
  have ht0 : B.heap[w.heap.size]? = some (.cells #[.int .i64 t.id, .int .i64 t.kind, .string t.text, .slice ka nk tc] 24 (0, 0)) := by rw [hB]; exact allocs_at _ _ 0 _ rfl
  have hr0 : B.heap[w.heap.size + 1]? = some (.cells #[.int .i64 0, .int .i64 0, .string ⟨#[]⟩, .slice none 0 0] 24 (0, 0)) := by rw [hB]; exact allocs_at _ _ 1 _ rfl
  have hw0 : B.heap[w.heap.size + 1 + 1]? = some (.cells #[.slice none 0 0] 144 (0, 0)) := by rw [hB]; exact allocs_at _ _ 2 _ rfl
  have hfo : FoAt B (SN S w.heap.size B) t.kids ka := hk.kept fun y hy => ⟨Or.inl hy, hb.block y (hS y hy)⟩
  have hI0 : CpI S w t [] B := ⟨⟨none, 0, hw0, World.ownsRow_nil _ _ _ _⟩, ⟨ka, tc, by rw [← hnk]; exact ht0, hcap, hfo⟩, hr0, fun r hr => (by cases hr), hb, by omega⟩
  have hfl := foLen_le t.kids
  have hcall := own_any S w.heap.size (w.heap.size + 1 + 1) (w.heap.size + 3) B none 0 0 [] w.heap.size 0 tc ka t.kids hS (by omega) (by omega) (by omega) hw0 (World.ownsRow_nil _ _ _ _) (by omega) ⟨_, ht0⟩ (Nat.le_refl _) (by rw [cell_of_row _ _ _ _ _ _ ht0, ← hnk]; rfl) hfo (by omega) (by omega)
  have HC := Lib.hid hcall
  have HSS := Lib.hid hS
  have HI0 := Lib.hid (And.intro hI0 hw0)
  have HBE := Lib.hid hB
  have HSZ := Lib.hid hsz
  clear hcall hI0 hfo hw0 hr0 ht0 hs hb hB hnk hk hcap hS hfl hsz
  go_enter Try.func149, Try.ntmps149
  go_upto_region 2 with fail
  change Code.wp _ _ _ _ (allocs w [.cells #[.int .i64 t.id, .int .i64 t.kind, .string t.text, .slice ka nk tc] 24, .cells #[.int .i64 0, .int .i64 0, .string ⟨#[]⟩, .slice none 0 0] 24, .cells #[.slice none 0 0] 144])
  rw [← HBE.out]
  clear HBE
  go_wp2_with fail
  refine HC.out.mono ?_
  rintro e V0 ⟨rfl, ho⟩
  obtain ⟨r0, hr0, hI1, _, _⟩ := HI0.out.1.own HI0.out.2 (World.ownsRow_nil _ _ _ _) (Or.inl ⟨rfl, rfl, rfl⟩) ho
  rw [List.nil_append] at hI1
  have hm0 : wsum [r0] ≤ 100001 := by simp only [wsum, hr0]; have := HSZ.out; omega
  have HI1 := Lib.hid (And.intro hI1 hm0)
  clear hI1 ho hr0 HI0 HC hm0 HSZ
  go_wp2_with fail
  go_loopg [5] (wsum [r0]) (fun gk s5 wr => ∃ L : List Wr, gk = wsum L ∧ Hid (CpI S w t L wr ∧ wsum L ≤ 100001))
  case atStart => exact ⟨[r0], rfl, HI1⟩
  case round =>
    obtain ⟨L, hgk, hh⟩ := hrel
    obtain ⟨wo, hwo⟩ : ∃ wo, wo = wr := ⟨_, rfl⟩
    subst hwo
    obtain ⟨wa, wc, hw, hrow⟩ := hh.out.1.wait
    rcases nil_or_snocW L with rfl | ⟨L0, r, rfl⟩
    · have c0 : wo.cell? ⟨w.heap.size + 1 + 1, 0, none⟩ = some (.slice wa 0 wc) := by rw [cell_of_row _ _ 0 _ _ _ hw]; rfl
      obtain ⟨rka, rkc, q1, q2, q3⟩ := hh.out.1.root
      have q4 := hh.out.1.res
      have q5 := hh.out.1.below
      have q6 := hh.out.1.size
      obtain ⟨k0, k1, k2, k3⟩ := box4 q1
      obtain ⟨z0, z1, z2, z3⟩ := box4 q4
      have zf : ∀ j, wo.frozen? ⟨w.heap.size + 1, j, none⟩ = false := fun j => frozen_of_row _ _ j _ _ q4
      obtain ⟨m, hm⟩ : ∃ m, m = foLen t.kids := ⟨_, rfl⟩
      rw [← hm] at q1 q2 k3
      obtain ⟨V, hV, r1, r2, r3, r4, r5, r6⟩ := four_set (u0 := .int .i64 t.id) (u1 := .int .i64 t.kind) (u2 := .string t.text) (u3 := .slice rka m rkc) q4
      have HEND : Hid (CopiedC w S t (.returned (.agg #[.int .i64 t.id, .int .i64 t.kind, .string t.text, .slice rka m rkc])) V) := Lib.hid ⟨_, rfl, ⟨rka, rkc, by rw [hm], by omega, q3.kept fun y hy => by
        have hlt := hy.lt HSS.out (by omega)
        exact ⟨⟨hy.imp (fun h => h) (fun h => h.2.1), show y < V.heap.size by omega⟩, r2 y (by rcases hy with hy | ⟨hy, _⟩; have := HSS.out y hy; omega; omega)⟩⟩, ⟨r3.trans q5.os, r4.trans q5.tape, r5.trans q5.output, by rw [r6]; exact q5.size, fun y hy => (r2 y (by omega)).trans (q5.block y hy)⟩⟩
      have HV := Lib.hid (And.intro hV r1)
      clear hh hw hrow q1 q2 q3 q4 q5 q6 hm hV r1 r2 r3 r4 r5 r6 HI1
      go_wp2_with fail
      rw [← HV.out.1]
      refine bodyPost_ret (results_cellI rfl _ _ (w.heap.size + 1) 24 _ (0, 0) _ rfl HV.out.2 Try.underlying24 rfl (by kernel_rfl)) rfl ?_
      exact HEND.out
    · obtain ⟨n, hn⟩ : ∃ n, n = L0.length := ⟨_, rfl⟩
      have hlen : (L0 ++ [r]).length = n + 1 := by simp [hn]
      rw [hlen] at hw hrow
      obtain ⟨g, cap2, e, _⟩ := hrow.form (by omega)
      cases e
      have c0 : wo.cell? ⟨w.heap.size + 1 + 1, 0, none⟩ = some (.slice (some ⟨g, 0, none⟩) (n + 1) wc) := by rw [cell_of_row _ _ 0 _ _ _ hw]; rfl
      have cf : ∀ j, wo.frozen? ⟨w.heap.size + 1 + 1, j, none⟩ = false := fun j => frozen_of_row _ _ j _ _ hw
      obtain ⟨rn, hrn⟩ : ∃ rn, rn = foLen r.f := ⟨_, rfl⟩
      have t0 : wo.cell? ⟨g, n, none⟩ = some (.slice r.a rn r.cap) := owns_cell hrow rfl n _ (by
        rw [List.map_append, List.getElem?_append_right (by rw [List.length_map]; omega), List.length_map, ← hn, Nat.sub_self, hrn]; rfl)
      have hnc : n + 1 ≤ wc := by
        rcases hrow.2 with ⟨hv, _⟩ | ⟨_, _, _, hv, _, _, h3, _⟩
        · cases hv
        · cases hv; exact h3
      obtain ⟨hp1, hp2⟩ := hh.out.1.pop HSS.out hn hw hrow
      obtain ⟨V, hV⟩ : ∃ V, V = wo.setCell ⟨w.heap.size + 1 + 1, 0, none⟩ (.slice (some ⟨g, 0, none⟩) n wc) := ⟨_, rfl⟩
      rw [← hV] at hp1 hp2
      have hw6 := hh.out.2
      have hws : wsum (L0 ++ [r]) = wsum L0 + foSize r.f + 1 := by rw [wsum_append]; simp only [wsum]; omega
      have hwl := wsum_len L0
      have hfr := foLen_le r.f
      rw [hws] at hgk hw6
      have hn6 : n ≤ 100000 := by omega
      have hr6 : rn ≤ 100001 := by omega
      have HV := Lib.hid hV
      have HP := Lib.hid (And.intro hp1 (And.intro hp2 (And.intro hgk (And.intro hw6 hrn))))
      clear hh hw hrow hlen hp1 hp2 hgk hw6 hws hwl hfr hrn hV hn HI1
      go_wp2_with fail
      rw [← HV.out]
      go_loopw [26] (fun i wr => ∃ (k : Nat) (L1 : List Wr), k ≤ rn ∧ i = .int .i64 (k : Int) ∧ Hid (CpI S w t (L0 ++ L1) wr ∧ RowW S w wr r ∧ wsum L1 = foSize (foTake k r.f))) (fun i _ => rn - (intOf i).toNat)
      case atStart => exact ⟨0, [], Nat.zero_le _, rfl, Lib.hid ⟨by rw [List.append_nil]; exact HP.out.1, HP.out.2.1, by cases r.f <;> rfl⟩⟩
      case round =>
        obtain ⟨k, L1, hk, rfl, hh⟩ := hrel
        by_cases hlt : k < rn
        · have hki : (k : Int) < (rn : Int) := by omega
          obtain ⟨hI, ⟨hr1, hr2, hr3⟩, hws⟩ := hh.out
          have hrn := HP.out.2.2.2.2
          have hw6 := HP.out.2.2.2.1
          obtain ⟨g3, ha, hg3, hN3⟩ := hr3 (by omega)
          obtain ⟨b0, o0, key, ll, rr, hd, g2, go, na, nc, hka, hSg, q0, q1, q2, q3, qc, qk⟩ := hr2.at k (by omega)
          rw [ha] at hka
          cases hka
          have hkid : kidF r.f k = some ⟨key.1, key.2.1, key.2.2, ll⟩ := by rw [kidF, hd]; rfl
          have hksz := kidF_size hkid
          have hll := foLen_le ll
          have hts := foTake_size hkid
          have htl := foTake_le k r.f
          have hwa : wsum (L0 ++ L1) = wsum L0 + wsum L1 := wsum_append _ _
          have hwl := wsum_len (L0 ++ L1)
          obtain ⟨wa2, wc2, hw2, hrow2⟩ := hI.wait
          simp only at hksz hts
          rw [Nat.zero_add] at q3
          have hcall := own_any S w.heap.size (w.heap.size + 1 + 1) (w.heap.size + 3) wr wa2 (L0 ++ L1).length wc2 ((L0 ++ L1).map Wr.v) g3 (k * 4) nc na ll HSS.out (by omega) (by omega) hI.size hw2 hrow2 (by omega) hN3 (by omega) q3 qk (by omega) (by omega)
          have HC := Lib.hid hcall
          have HN := Lib.hid (And.intro hlt (And.intro hts (And.intro hg3 (And.intro hI (And.intro hw2 (And.intro hrow2 (And.intro hr1 (And.intro hr2 (And.intro hr3 (And.intro hws (And.intro ha hkid)))))))))))
          have hk0 : (0 : Int) ≤ (k : Int) := by omega
          clear hcall hlt hts hg3 hI hw2 hrow2 hr1 hr2 hr3 hws hkid hksz hll htl hwa hwl hN3 hd hSg q0 q1 q2 q3 qc qk hh hrn hw6 hk t0 cf c0
          rw [ha]
          go_wp2_with fail
          refine HC.out.mono ?_
          rintro e V2 ⟨rfl, ho⟩
          obtain ⟨hlt, hts, hg3, hI, hw2, hrow2, hr1, hr2, hr3, hws, ha', hkid⟩ := HN.out
          obtain ⟨r2, hrf, hI2, hkeep, hNB⟩ := hI.own hw2 hrow2 (Or.inr hg3) ho
          have HR := Lib.hid (show CpI S w t (L0 ++ (L1 ++ [r2])) V2 ∧ RowW S w V2 r ∧ wsum (L1 ++ [r2]) = foSize (foTake (k + 1) r.f) from ⟨by rw [← List.append_assoc]; exact hI2, ⟨hr1, hkeep _ _ hr2, fun h0 => by obtain ⟨g, e, h1, h2⟩ := hr3 h0; exact ⟨g, e, h1, hNB g h2⟩⟩, by rw [wsum_append, hws, hts]; simp only [wsum, hrf]; omega⟩)
          have HLT := Lib.hid hlt
          clear hlt hts hg3 hI hw2 hrow2 hr1 hr2 hr3 hws ha' hkid hI2 hkeep hNB ho HN HC hrf
          go_wp2_with fail
          exact ⟨⟨k + 1, L1 ++ [r2], by have := HLT.out; omega, by go_num, HR⟩, by have := HLT.out; simp [intOf]; omega⟩
        · have hki : ¬ (k : Int) < (rn : Int) := by omega
          have HKN := Lib.hid (show k = rn by omega)
          clear hlt hk t0 cf c0
          go_wp2_with fail
          go_roundg (gk - 1)
          case measure => have := HP.out.2.2.1; omega
          case rel =>
            refine ⟨L0 ++ L1, ?_, Lib.hid ⟨hh.out.1, ?_⟩⟩
            all_goals
              have h1 := hh.out.2.2
              rw [HKN.out, HP.out.2.2.2.2, foTake_all _ r.f (Nat.le_refl _)] at h1
              have h2 := wsum_append L0 L1
              have h3 := HP.out.2.2.1
              have h4 := HP.out.2.2.2.1
              omega
end Go.Proofs.Ythjniclhnfipdaa
