/-
  Where a node stands: the node, its parent and its place. No condition but that there are not too many nodes.
-/
import Derived.Deep.Cut
import Derived.Test.YthjniclhnfipdaaIPureQv
import Derived.Test.YthjniclhnfipdaaHDistQv
namespace Go.Proofs.Ythjniclhnfipdaa
open Go.RowKit Go.Shelf
set_option linter.unusedVariables false
set_option linter.unusedSimpArgs false

theorem results_cell3 {P : Program} {fn : Func} {p u v : Tmp} {ty : TypeId} (h : fn.results = #[.cell p ty, .tmp u, .tmp v]) (tmps : Array Value) (w : World) (g : Nat) (t : TypeId) (cs : Array Value) (fr : Nat × Nat) (d : TypeDesc) (x y : Value)
    (hp : tmps.getD p undef = .pointer (some ⟨g, 0, none⟩)) (hg : w.heap[g]? = some (.cells cs t fr)) (hu : P.underlying ty = some d) (hd : (match d with | .struct _ | .array _ _ => true | _ => false) = true) (hi : (P.info? ty).map (·.size) = some cs.size) (hp2 : tmps.getD u undef = x) (hp3 : tmps.getD v undef = y) :
    (results fn tmps).run P w = .ok (.tuple #[.agg cs, x, y]) w := by
  have hp' : tmps[p]?.getD undef = .pointer (some ⟨g, 0, none⟩) := by simpa using hp
  have hp2' : tmps[u]?.getD undef = x := by simpa using hp2
  have hp3' : tmps[v]?.getD undef = y := by simpa using hp3
  simp [results, h, hp', hp2', hp3', asAddr, run_loadVar_row w g t ty cs fr d hg hu hd hi]
theorem walkW_step {p : List Nat} {k j : Nat} {u vv : Tr} {a b : Int} (hj : p[k]? = some j) (h : atT u (p.drop k) = some vv) : ∃ v, kidF u.kids j = some v ∧ walkW u a b (p.drop k) = walkW v u.id (j : Int) (p.drop (k + 1)) ∧ atT v (p.drop (k + 1)) = some vv := by
  obtain ⟨hk, e⟩ := List.getElem?_eq_some_iff.1 hj
  have hd : p.drop k = j :: p.drop (k + 1) := by rw [List.drop_eq_getElem_cons hk, e]
  rw [hd] at h
  simp only [atT] at h
  cases hv : kidF u.kids j with
  | none => rw [hv] at h; cases h
  | some v => rw [hv] at h; exact ⟨v, rfl, by rw [hd]; simp only [walkW, hv], h⟩
/-- The node in its variable. -/
def WhI (w : World) (S : Nat → Prop) (g : Nat) (X : World) (u : Tr) : Prop := Below w.heap.size w X ∧ (∃ ka kc, X.heap[g]? = some (.cells #[.int .i64 u.id, .int .i64 u.kind, .string u.text, .slice ka (foLen u.kids) kc] 24 (0, 0)) ∧ foLen u.kids ≤ kc ∧ FoAt X S u.kids ka)
def WhenC (w : World) (S : Nat → Prop) (r : Tr × Int × Int) (e : Ending) (w' : World) : Prop := ∃ v, e = .returned (.tuple #[v, .int .i64 r.2.1, .int .i64 r.2.2]) ∧ TrAt w' S v r.1 ∧ Below w.heap.size w w'
set_option maxRecDepth 100000 in
set_option maxHeartbeats 8000000 in
theorem whence_any (w : World) (S : Nat → Prop) (nv : Value) (t : Tr) (id : Int) (hS : ∀ y, S y → y < w.heap.size) (ht : TrAt w S nv t) (hsz : foSize t.kids ≤ 300000) : Calls Try.prog 172 #[nv, .int .i64 id] w (WhenC w S (whenceK id t)) := by
  obtain ⟨ka, tc, rfl, hcap, hk⟩ := ht
  obtain ⟨nk, hnk⟩ : ∃ nk, nk = foLen t.kids := ⟨_, rfl⟩
  rw [← hnk]
  obtain ⟨B, hB⟩ : ∃ B, B = allocs w [.cells #[.int .i64 t.id, .int .i64 t.kind, .string t.text, .slice ka nk tc] 24, .cells #[.int .i64 0, .int .i64 0, .string ⟨#[]⟩, .slice none 0 0] 24] := ⟨_, rfl⟩
  have hb : Below w.heap.size w B := by rw [hB]; exact allocs_below _ _
  have hs : B.heap.size = w.heap.size + 2 := by rw [hB]; exact allocs_size _ _
  have ht0 : B.heap[w.heap.size]? = some (.cells #[.int .i64 t.id, .int .i64 t.kind, .string t.text, .slice ka nk tc] 24 (0, 0)) := by rw [hB]; exact allocs_at _ _ 0 _ rfl
  have hr0 : B.heap[w.heap.size + 1]? = some (.cells #[.int .i64 0, .int .i64 0, .string ⟨#[]⟩, .slice none 0 0] 24 (0, 0)) := by rw [hB]; exact allocs_at _ _ 1 _ rfl
  have hpath := path_any B S (.agg #[.int .i64 t.id, .int .i64 t.kind, .string t.text, .slice ka nk tc]) t id (fun y hy => Nat.lt_of_lt_of_le (hS y hy) hb.size) ⟨ka, tc, by rw [hnk], hcap, hk.below hb hS⟩ (by omega)
  obtain ⟨p, hp⟩ : ∃ p, p = (pathT id t).getD [] := ⟨_, rfl⟩
  have hat : ∃ vv, atT t p = some vv ∧ p.length ≤ foSize t.kids := by
    cases h : pathT id t with
    | none => rw [h] at hp; simp only [Option.getD_none] at hp; subst hp; exact ⟨t, rfl, Nat.zero_le _⟩
    | some q =>
      rw [h] at hp
      simp only [Option.getD_some] at hp
      obtain ⟨u, hu, _⟩ := pathT_at _ _ _ h
      subst hp
      exact ⟨u, hu, by have := atT_size _ _ _ hu; omega⟩
  obtain ⟨vv, hvv, hpl⟩ := hat
  have hwk : whenceK id t = walkW t 0 0 p := by rw [hp]; rfl
  rw [hwk]
  unfold PathC at hpath
  rw [← hp] at hpath
  obtain ⟨b0, b1, b2, b3⟩ := box4 ht0
  have HP := Lib.hid hpath
  have HB := Lib.hid (And.intro hb (And.intro hs (And.intro ht0 hr0)))
  have HK := Lib.hid (And.intro hnk (And.intro hcap (And.intro hk hS)))
  have HV := Lib.hid (And.intro hvv hsz)
  have HS := Lib.hid hS
  have HBE := Lib.hid hB
  have hp6 : p.length ≤ 300000 := by omega
  clear hpath hb hs ht0 hr0 hB hnk hcap hk hS hvv hpl hwk hp hsz
  go_enter Try.func172, Try.ntmps172
  go_upto_region 1 with fail
  change Code.wp _ _ _ _ (allocs w [.cells #[.int .i64 t.id, .int .i64 t.kind, .string t.text, .slice ka nk tc] 24, .cells #[.int .i64 0, .int .i64 0, .string ⟨#[]⟩, .slice none 0 0] 24])
  rw [← HBE.out]
  clear HBE
  go_wp2_with fail
  refine HP.out.mono ?_
  rintro e W ⟨pv, rfl, hown, hbW⟩
  obtain ⟨pa, pc, rfl⟩ := owns_slice hown
  have hW1 := (hbW.block _ (lt_of_heap HB.out.2.2.1)).trans HB.out.2.2.1
  have hW2 := (hbW.block _ (lt_of_heap HB.out.2.2.2)).trans HB.out.2.2.2
  clear b0 b1 b2 b3
  obtain ⟨b0, b1, b2, b3⟩ := box4 hW1
  obtain ⟨z0, z1, z2, z3⟩ := box4 hW2
  have zf : ∀ j, W.frozen? ⟨w.heap.size + 1, j, none⟩ = false := fun j => frozen_of_row _ _ j _ _ hW2
  obtain ⟨V, hV, r1, r2, r3, r4, r5, r6⟩ := four_set (u0 := .int .i64 t.id) (u1 := .int .i64 t.kind) (u2 := .string t.text) (u3 := .slice ka nk tc) hW2
  obtain ⟨m, hm⟩ : ∃ m, m = (natI p).length := ⟨_, rfl⟩
  rw [← hm] at hown ⊢
  have hgl := fun g hg => owns_bounds hown (g := g) hg
  have hownV := owns_kept (w' := V) hown (fun g cur hc hg => r2 g (by have := (hgl g hg).1; have := HB.out.2.1; omega))
  have hbw := HB.out.1
  have hbz := HB.out.2.1
  have hWz := hbW.size
  have hIV : WhI w S (w.heap.size + 1) V t := ⟨⟨r3.trans (hbW.os.trans hbw.os), r4.trans (hbW.tape.trans hbw.tape), r5.trans (hbW.output.trans hbw.output), by rw [r6]; omega, fun y hy => (r2 y (by omega)).trans ((hbW.block y (by omega)).trans (hbw.block y hy))⟩, ka, tc, by rw [← HK.out.1]; exact r1, HK.out.2.1, HK.out.2.2.1.kept fun y hy => ⟨hy, (r2 y (by have := HK.out.2.2.2 y hy; omega)).trans ((hbW.block y (by have := HK.out.2.2.2 y hy; omega)).trans (hbw.block y (HK.out.2.2.2 y hy)))⟩⟩
  rw [HB.out.2.1] at hownV
  have HI0 := Lib.hid (And.intro hIV (And.intro hownV (And.intro (fun g hg => show w.heap.size + 2 ≤ g by have := (hgl g hg).1; omega) (show m = p.length by rw [hm, natI_length]))))
  have hm6 : m ≤ 300000 := by rw [hm, natI_length]; exact hp6
  have HVE := Lib.hid hV
  clear hown hbW hW1 hW2 hV r1 r2 r3 r4 r5 r6 hm hgl hownV hbw hbz hWz hIV HP HB HK
  go_upto_region 3 with fail
  rw [← HVE.out]
  clear HVE b0 b1 b2 b3 z0 z1 z2 z3 zf
  go_wp2_with fail
  go_loopw [5, 6, 18] (fun a b i wr => ∃ (k : Nat) (ai bi : Int) (u : Tr), k ≤ m ∧ i = .int .i64 (k : Int) ∧ a = .int .i64 ai ∧ b = .int .i64 bi ∧ Hid (WhI w S (w.heap.size + 1) wr u ∧ wr.ownsRow (w.heap.size + 2) 3 1 (.slice pa m pc) m ((natI p).map intV) ∧ walkW u ai bi (p.drop k) = walkW t 0 0 p ∧ atT u (p.drop k) = some vv)) (fun _ _ i _ => m - (intOf i).toNat)
  case atStart => exact ⟨0, 0, 0, t, Nat.zero_le _, rfl, rfl, rfl, Lib.hid ⟨HI0.out.1, HI0.out.2.1, by rw [List.drop_zero], by rw [List.drop_zero]; exact HV.out.1⟩⟩
  case round =>
    obtain ⟨k, ai, bi, u, hk, rfl, rfl, rfl, hh⟩ := hrel
    by_cases hlt : k < m
    · have hki : (k : Int) < (m : Int) := by omega
      obtain ⟨⟨hbel, ka2, kc2, hh1, hc, hf⟩, hown, hwk, hat⟩ := hh.out
      obtain ⟨j, hj⟩ : ∃ j, p[k]? = some j := ⟨_, List.getElem?_eq_getElem (by rw [← HI0.out.2.2.2]; exact hlt)⟩
      obtain ⟨g, hpa, hgc, hgl, hcell⟩ := own_cap hown (by omega)
      subst hpa
      have c0 : wr.cell? ⟨g, k, none⟩ = some (.int .i64 (j : Int)) := hcell k (j : Int) (by rw [natI, List.getElem?_map, hj]; rfl)
      obtain ⟨v, hkv, hwk2, hat2⟩ := walkW_step (a := ai) (b := bi) hj hat
      obtain ⟨n0, n1, n2, n3⟩ := box4 hh1
      have nf : ∀ i, wr.frozen? ⟨w.heap.size + 1, i, none⟩ = false := fun i => frozen_of_row _ _ i _ _ hh1
      have hju := kidF_some hkv
      obtain ⟨b0, o0, key, l, r, hd, g2, go, na, nc, hka, hSg, q0, q1, q2, q3, qc, qk⟩ := hf.at j hju
      subst hka
      have hv : v = ⟨key.1, key.2.1, key.2.2, l⟩ := by rw [kidF, hd] at hkv; cases hkv; rfl
      obtain ⟨un, hun⟩ : ∃ un, un = foLen u.kids := ⟨_, rfl⟩
      obtain ⟨ln, hln⟩ : ∃ ln, ln = foLen l := ⟨_, rfl⟩
      rw [← hun] at n3
      rw [← hln] at q3
      have hju2 : (j : Int) < (un : Int) := by omega
      have hj0 : (0 : Int) ≤ (j : Int) := by omega
      obtain ⟨V, hV, r1, r2, r3, r4, r5, r6⟩ := four_set (u0 := .int .i64 key.1) (u1 := .int .i64 key.2.1) (u2 := .string key.2.2) (u3 := .slice na ln nc) hh1
      have hne : ∀ y, S y → y ≠ w.heap.size + 1 := fun y hy e => by have := HS.out y hy; omega
      have hIV : WhI w S (w.heap.size + 1) V.drew v := ⟨⟨r3.trans hbel.os, r4.trans hbel.tape, r5.trans hbel.output, by show w.heap.size ≤ V.heap.size; rw [r6]; exact hbel.size, fun y hy => (r2 y (by omega)).trans (hbel.block y hy)⟩, na, nc, by subst hv; rw [← hln]; exact r1, by subst hv; exact qc, by subst hv; exact FoAt.kept (w := wr) (w' := V.drew) (S := S) (S' := S) (fun y hy => ⟨hy, r2 y (hne y hy)⟩) qk⟩
      have hownV := owns_kept (w' := V.drew) hown (fun g' cur hc hg => r2 g' (by have := HI0.out.2.2.1 g' hg; omega))
      have HEND := Lib.hid (And.intro hIV (And.intro hownV (And.intro (hwk2.symm.trans hwk) (And.intro hat2 hlt))))
      have HVE := Lib.hid hV
      clear hbel hh1 hc hf hown hwk hat hj hgc hcell hkv hwk2 hat2 hd hSg qc qk hv hun hln hV r1 r2 r3 r4 r5 r6 hne hIV hownV hlt hju hh hk HI0 hgl
      go_wp2_with fail
      go_region_law (fail)
      all_goals
        rw [← HVE.out]
        go_wp2_with fail
        refine ⟨⟨k + 1, u.id, (j : Int), v, by have := HEND.out.2.2.2.2; omega, by go_num, rfl, rfl, Lib.hid ⟨HEND.out.1, HEND.out.2.1, HEND.out.2.2.1, HEND.out.2.2.2.1⟩⟩, by have := HEND.out.2.2.2.2; simp [intOf]; omega⟩
    · have hki : ¬ (k : Int) < (m : Int) := by omega
      obtain ⟨⟨hbel, ka2, kc2, hh1, hc, hf⟩, hown, hwk, hat⟩ := hh.out
      rw [List.drop_eq_nil_of_le (by have := HI0.out.2.2.2; omega)] at hwk
      obtain ⟨n0, n1, n2, n3⟩ := box4 hh1
      have nf : ∀ i, wr.frozen? ⟨w.heap.size + 1, i, none⟩ = false := fun i => frozen_of_row _ _ i _ _ hh1
      obtain ⟨un, hun⟩ : ∃ un, un = foLen u.kids := ⟨_, rfl⟩
      rw [← hun] at n3 hh1
      obtain ⟨V, hV, r1, r2, r3, r4, r5, r6⟩ := four_set (u0 := .int .i64 u.id) (u1 := .int .i64 u.kind) (u2 := .string u.text) (u3 := .slice ka2 un kc2) hh1
      have HEND : Hid (WhenC w S (walkW t 0 0 p) (.returned (.tuple #[.agg #[.int .i64 u.id, .int .i64 u.kind, .string u.text, .slice ka2 un kc2], .int .i64 ai, .int .i64 bi])) V) := Lib.hid (by
        rw [← hwk, show walkW u ai bi [] = (u, ai, bi) from rfl]
        exact ⟨_, rfl, ⟨ka2, kc2, by rw [hun], hc, hf.kept fun y hy => ⟨hy, r2 y (fun e => by have := HS.out y hy; omega)⟩⟩, ⟨r3.trans hbel.os, r4.trans hbel.tape, r5.trans hbel.output, by rw [r6]; exact hbel.size, fun y hy => (r2 y (by omega)).trans (hbel.block y hy)⟩⟩)
      have HR := Lib.hid r1
      have HVE := Lib.hid hV
      clear hbel hh1 hc hf hown hwk hat hlt hk hh hun HI0 hV r1 r2 r3 r4 r5 r6
      go_wp2_with fail
      rw [← HVE.out]
      refine bodyPost_ret (results_cell3 rfl _ _ (w.heap.size + 1) 24 _ (0, 0) _ (.int .i64 ai) (.int .i64 bi) rfl HR.out Try.underlying24 rfl (by kernel_rfl) rfl rfl) rfl ?_
      exact HEND.out
end Go.Proofs.Ythjniclhnfipdaa
