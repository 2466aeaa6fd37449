/-
  The document's own Parent. No condition but that there are not too many nodes.
-/
import Derived.Test.YtjppibomjnmjpaaHRAbove
namespace Go.Proofs.Ytjppibomjnmjpaa
open Go.RowKit Go.Shelf
set_option linter.unusedVariables false
set_option linter.unusedSimpArgs false

/-- What the document's own At says at a path that a node has. -/
def AtKnows (w : World) (t : Tr) (ka : Option Addr) (nk tc : Nat) : Prop := ∀ (X : World) (hX : Below w.heap.size w X) (pa : Option Addr) (n pc : Nat) (l : List Nat) (u : Tr) (hp : IntsL X (fun y => y < X.heap.size) pa pc (natI l)) (hn : n = (natI l).length) (hnb : n ≤ 1000000) (hu : atT t l = some u), Calls Try.prog 21 #[.agg #[.int .i64 t.id, .int .i64 t.kind, .string t.text, .slice ka nk tc], .slice pa n pc] X fun e w' => (∃ ya yc, e = .returned (.tuple #[.agg #[.int .i64 u.id, .int .i64 u.kind, .string u.text, .slice ya (foLen u.kids) yc], .bool true])) ∧ Below X.heap.size X w'
theorem at_knows (w : World) (S : Nat → Prop) (t : Tr) (ka : Option Addr) (tc : Nat) (hS : ∀ x, S x → x < w.heap.size) (hk : FoAt w S t.kids ka) (hcap : foLen t.kids ≤ tc) (hlen : foLen t.kids ≤ 9223372036854775807) (hfit : foFit t.kids) : AtKnows w t ka (foLen t.kids) tc := fun X hX pa n pc l u hp hn hnb hu => by
  refine (rat_any X S (.agg #[.int .i64 t.id, .int .i64 t.kind, .string t.text, .slice ka (foLen t.kids) tc]) t pa n pc (natI l) (fun x hx => Nat.lt_of_lt_of_le (hS x hx) hX.size) ⟨ka, tc, rfl, hcap, hk.below hX hS⟩ hlen hfit _ (fun _ h => h) hp hn hnb).mono ?_
  rintro e w' ⟨v, rfl, hv, hb⟩
  rw [atI_nat, hu] at hv ⊢
  obtain ⟨ya, yc, rfl, _⟩ := hv
  exact ⟨⟨ya, yc, rfl⟩, hb⟩
theorem path_le (id : Int) (t : Tr) (p : List Nat) (h : pathT id t = some p) : p.length ≤ foSize t.kids := by
  have h9 := idsOf_le id t
  rw [idsOf_length id t p h] at h9
  omega
/-- At the beginning of a path of a call's own. -/
theorem at_first {w W X : World} {t : Tr} {ka : Option Addr} {nk tc B : Nat} {pa : Option Addr} {n pc k : Nat} {p : List Nat} {u : Tr} (hA : AtKnows w t ka nk tc) (hwW : Below w.heap.size w W) (hX : Below W.heap.size W X) (hpo : W.ownsRow B 3 1 (.slice pa n pc) n ((natI p).map intV)) (hk : k ≤ p.length) (hk6 : k ≤ 1000000) (hu : atT t (p.take k) = some u) :
    Calls Try.prog 21 #[.agg #[.int .i64 t.id, .int .i64 t.kind, .string t.text, .slice ka nk tc], .slice pa k pc] X fun e w' => (∃ ya yc, e = .returned (.tuple #[.agg #[.int .i64 u.id, .int .i64 u.kind, .string u.text, .slice ya (foLen u.kids) yc], .bool true])) ∧ Below W.heap.size W w' ∧ Below X.heap.size X w' := by
  have hpX := owns_kept hpo (w' := X) (fun g cur hc _ => hX.block g (lt_of_some hc))
  have hil := (intsL_own (l := natI p) hpX).1
  have hil2 := (IntsL.take hil k).kept (w' := X) (S' := fun y => y < X.heap.size) (fun y hy => ⟨hy.2, rfl⟩)
  have he : (natI p).take k = natI (p.take k) := by simp [natI, List.map_take]
  rw [he] at hil2
  refine (hA X (hwW.trans (hX.mono hwW.size)) pa k pc (p.take k) u hil2 (by rw [natI_length, List.length_take]; omega) hk6 hu).mono ?_
  rintro e w' ⟨h1, h2⟩
  exact ⟨h1, hX.trans (h2.mono hX.size), h2⟩
theorem natI_at {p : List Nat} {k y : Nat} (h : p[k]? = some y) : (natI p)[k]? = some (y : Int) := by rw [natI, List.getElem?_map, h]; rfl
set_option maxRecDepth 100000 in
set_option maxHeartbeats 8000000 in
theorem rparent_any (w : World) (S : Nat → Prop) (nv : Value) (t : Tr) (id : Int) (hS : ∀ x, S x → x < w.heap.size) (ht : TrAt w S nv t) (hsz : foSize t.kids ≤ 400000) (hlen : foLen t.kids ≤ 9223372036854775807) (hfit : foFit t.kids) : Calls Try.prog 11 #[nv, .int .i64 id] w fun e w' => e = .returned (.tuple #[.int .i64 (parentT id t).1, .int .i64 (parentT id t).2.1, .bool (parentT id t).2.2]) ∧ Below w.heap.size w w' := by
  obtain ⟨ka, tc, rfl, hcap, hk⟩ := ht
  have hb := box_below w (.cells #[.int .i64 t.id, .int .i64 t.kind, .string t.text, .slice ka (foLen t.kids) tc] 24)
  have hbx := heap_alloc_new w (.cells #[.int .i64 t.id, .int .i64 t.kind, .string t.text, .slice ka (foLen t.kids) tc] 24)
  have hpath := rpath_any 500000 (w.alloc (.cells #[.int .i64 t.id, .int .i64 t.kind, .string t.text, .slice ka (foLen t.kids) tc] 24)) S _ t id (by omega) (by omega) (fun x hx => Nat.lt_of_lt_of_le (hS x hx) hb.size) ⟨ka, tc, rfl, hcap, hk.below hb hS⟩
  have hat := at_knows w S t ka tc hS hk hcap hlen hfit
  obtain ⟨nk, hnk⟩ : ∃ n, n = foLen t.kids := ⟨_, rfl⟩
  rw [← hnk] at hb hbx hpath hat ⊢
  have HC := Lib.hid (And.intro hpath (And.intro hb hbx))
  have HATT := Lib.hid hat
  have HSZ := Lib.hid hsz
  obtain ⟨pr, hpr⟩ : ∃ pr, pr = parentT id t := ⟨_, rfl⟩
  rw [← hpr]
  clear hb hbx hpath hat hk hcap hS hnk hlen hfit hsz
  go_enter Try.func11, Try.ntmps11
  go_wp2_with fail
  refine HC.out.1.mono ?_
  rintro e W ⟨pv, rfl, hown, hbW⟩
  have hbW2 : Below w.heap.size w W := HC.out.2.1.trans (hbW.mono HC.out.2.1.size)
  cases hpt : pathT id t with
  | none =>
    have hE : pr = (0, 0, false) := by rw [hpr, parentT, hpt]
    have HE := Lib.hid (And.intro hE hbW2)
    clear hown hbW hbW2 HC hpt hE hpr
    simp only [Option.isSome_none]
    go_wp2_with fail
    go_ret3
    exact ⟨congrArg (fun z : Int × Int × Bool => Ending.returned (.tuple #[.int .i64 z.1, .int .i64 z.2.1, .bool z.2.2])) HE.out.1.symm, HE.out.2⟩
  | some p =>
    rw [hpt] at hown
    simp only [Option.getD_some] at hown
    rw [natI_length] at hown
    obtain ⟨pa, pc, rfl⟩ := owns_slice hown
    have hbxW := (hbW.block _ (lt_of_heap HC.out.2.2)).trans HC.out.2.2
    have hple := path_le id t p hpt
    cases p with
    | nil =>
      have hE : pr = (0, 0, false) := by rw [hpr, parentT, hpt]; rfl
      have HE := Lib.hid (And.intro hE hbW2)
      clear hown hbW hbW2 HC hpt hE hpr hbxW hple
      simp only [Option.isSome_some, List.length_nil]
      go_wp2_with fail
      go_ret3
      exact ⟨congrArg (fun z : Int × Int × Bool => Ending.returned (.tuple #[.int .i64 z.1, .int .i64 z.2.1, .bool z.2.2])) HE.out.1.symm, HE.out.2⟩
    | cons p0 ps =>
      obtain ⟨k, hk⟩ : ∃ k, k = ps.length := ⟨_, rfl⟩
      have hpl : (p0 :: ps).length = k + 1 := by rw [List.length_cons, hk]
      obtain ⟨q, hq⟩ : ∃ q, q = p0 :: ps := ⟨_, rfl⟩
      rw [← hq] at hown hpl hple hpt
      rw [hpl] at hown hple
      rw [← hq, hpl]
      obtain ⟨pg, pc', e1, hcapp⟩ := World.ownsRow.form hown (by omega)
      cases e1
      have hkc : k + 1 ≤ pc := by
        rcases hown.2 with ⟨hv, h0⟩ | ⟨_, _, _, hv, _, _, h3, _⟩
        · omega
        · cases hv; exact h3
      obtain ⟨uu, huu, _⟩ := pathT_at id t q hpt
      obtain ⟨u, hu⟩ := atT_take q t uu k huu
      obtain ⟨y, hy⟩ : ∃ y, q[k]? = some y := ⟨_, List.getElem?_eq_getElem (by omega)⟩
      have hE : pr = (u.id, (y : Int), true) := by
        rw [hpr, parentT, hpt]
        simp only
        rw [if_neg (by rw [hq]; simp), hpl, Nat.add_sub_cancel, idAt, hu, List.getD_eq_getElem?_getD, hy]
        rfl
      have hown2 := hown
      have hyc := owns_cell hown rfl k _ (by rw [List.getElem?_map, natI_at hy]; rfl)
      obtain ⟨uid, huid⟩ : ∃ x, x = u.id := ⟨_, rfl⟩
      obtain ⟨ukd, hukd⟩ : ∃ x, x = u.kind := ⟨_, rfl⟩
      obtain ⟨utx, hutx⟩ : ∃ x, x = u.text := ⟨_, rfl⟩
      obtain ⟨um, hum⟩ : ∃ x, x = foLen u.kids := ⟨_, rfl⟩
      rw [← huid] at hE
      have HAT : Hid (∀ X, Below W.heap.size W X → Calls Try.prog 21 #[.agg #[.int .i64 t.id, .int .i64 t.kind, .string t.text, .slice ka nk tc], .slice (some ⟨pg, 0, none⟩) k pc] X fun e w' => (∃ ya yc, e = .returned (.tuple #[.agg #[.int .i64 uid, .int .i64 ukd, .string utx, .slice ya um yc], .bool true])) ∧ Below W.heap.size W w' ∧ Below X.heap.size X w') := Lib.hid fun X hX => by
        have h9 := at_first HATT.out hbW2 hX hown2 (k := k) (by omega) (by have := HSZ.out; omega) hu
        rw [← huid, ← hukd, ← hutx, ← hum] at h9
        exact h9
      have b0 : W.cell? ⟨w.heap.size, 0, none⟩ = some (.int .i64 t.id) := by rw [cell_of_row _ _ 0 _ _ _ hbxW]; rfl
      have b1 : W.cell? ⟨w.heap.size, 1, none⟩ = some (.int .i64 t.kind) := by rw [cell_of_row _ _ 1 _ _ _ hbxW]; rfl
      have b2 : W.cell? ⟨w.heap.size, 2, none⟩ = some (.string t.text) := by rw [cell_of_row _ _ 2 _ _ _ hbxW]; rfl
      have b3 : W.cell? ⟨w.heap.size, 3, none⟩ = some (.slice ka nk tc) := by rw [cell_of_row _ _ 3 _ _ _ hbxW]; rfl
      have HBX := Lib.hid (fun (X : World) (h : Below W.heap.size W X) => (show X.cell? ⟨w.heap.size, 0, none⟩ = some (.int .i64 t.id) ∧ X.cell? ⟨w.heap.size, 1, none⟩ = some (.int .i64 t.kind) ∧ X.cell? ⟨w.heap.size, 2, none⟩ = some (.string t.text) ∧ X.cell? ⟨w.heap.size, 3, none⟩ = some (.slice ka nk tc) ∧ X.cell? ⟨pg, k, none⟩ = some (.int .i64 (y : Int)) from
        ⟨(h.cell (World.block_lt_of_cell? _ _ b0)).trans b0, (h.cell (World.block_lt_of_cell? _ _ b1)).trans b1, (h.cell (World.block_lt_of_cell? _ _ b2)).trans b2, (h.cell (World.block_lt_of_cell? _ _ b3)).trans b3, (h.cell (World.block_lt_of_cell? _ _ hyc)).trans hyc⟩))
      have HE := Lib.hid (And.intro hE hbW2)
      have hk6 : k ≤ 500000 := by have := HSZ.out; omega
      have hk0 : (0 : Int) ≤ (k : Int) := by omega
      have hkn : (k : Int) ≤ (pc : Int) := by omega
      have hkl : (k : Int) < (k : Int) + 1 := by omega
      have hkz : ((k : Int) + 1 == 0) = false := by simp; omega
      have hkw : IntKind.i64.wrap (k : Int) = (k : Int) := IntWalk.i64_in _ (by omega)
      clear hown hown2 hbW hbW2 HC hpt hE hpr hbxW hple hk hpl hq huu hu hy huid hukd hutx hum hkc hyc b0 b1 b2 b3 hcapp
      simp only [Option.isSome_some]
      go_wp2_with fail
      refine wp_region_held_drew (S := fun X => Below W.heap.size W X) (by kernel_rfl) (below_drewN (Below.refl _ W) 1) (fun hHeld => ?_)
      refine wpAnyH_take (i := 0) (oi := _) (v := .agg #[.int .i64 t.id, .int .i64 t.kind, .string t.text, .slice ka nk tc]) rfl (by kernel_rfl) (by kernel_rfl) (by kernel_rfl) (fun _ _ _ h => h) (Or.inl ⟨by rfl, ?_⟩) (by assumption) ?_
      · clear hHeld; intro X hSw; obtain ⟨s0, s1, s2, s3, s4⟩ := HBX.out X hSw; clear hSw; go_simp
      simp only [Act.put, List.getElem_toArray, List.getElem_cons_zero, List.getElem_cons_succ, List.setIfInBounds_toArray, List.set_cons_zero, List.set_cons_succ]
      refine wpAnyH_take (i := 1) (oi := _) (v := .slice (some ⟨pg, 0, none⟩) (k + 1) pc) rfl (by kernel_rfl) (by kernel_rfl) (by kernel_rfl) (fun _ _ _ h => h) (Or.inl ⟨by rfl, ?_⟩) (by assumption) ?_
      · clear hHeld; intro X hSw; clear hSw; go_simp
      simp only [Act.put, List.getElem_toArray, List.getElem_cons_zero, List.getElem_cons_succ, List.setIfInBounds_toArray, List.set_cons_zero, List.set_cons_succ]
      refine wpAnyH_take (i := 2) (oi := _) (v := .slice (some ⟨pg, 0, none⟩) (k + 1) pc) rfl (by kernel_rfl) (by kernel_rfl) (by kernel_rfl) (fun _ _ _ h => h) (Or.inl ⟨by rfl, ?_⟩) (by assumption) ?_
      · clear hHeld; intro X hSw; clear hSw; go_simp
      simp only [Act.put, List.getElem_toArray, List.getElem_cons_zero, List.getElem_cons_succ, List.setIfInBounds_toArray, List.set_cons_zero, List.set_cons_succ]
      refine wpAnyH_take (i := 3) (oi := _) (v := .int .i64 ((k : Int) + 1)) rfl (by kernel_rfl) (by kernel_rfl) (by kernel_rfl) (fun _ _ _ h => h) (Or.inl ⟨by rfl, ?_⟩) (by assumption) ?_
      · clear hHeld; intro X hSw; clear hSw; go_simp
      simp only [Act.put, List.getElem_toArray, List.getElem_cons_zero, List.getElem_cons_succ, List.setIfInBounds_toArray, List.set_cons_zero, List.set_cons_succ]
      refine wpAnyH_take (i := 4) (oi := _) (v := .int .i64 (k : Int)) rfl (by kernel_rfl) (by kernel_rfl) (by kernel_rfl) (fun _ _ _ h => h) (Or.inl ⟨by rfl, ?_⟩) (by assumption) ?_
      · clear hHeld; intro X hSw; clear hSw; go_simp
      simp only [Act.put, List.getElem_toArray, List.getElem_cons_zero, List.getElem_cons_succ, List.setIfInBounds_toArray, List.set_cons_zero, List.set_cons_succ]
      refine wpAnyH_take (i := 5) (oi := _) (v := .slice (some ⟨pg, 0, none⟩) k pc) rfl (by kernel_rfl) (by kernel_rfl) (by kernel_rfl) (fun _ _ _ h => h) (Or.inl ⟨by rfl, ?_⟩) (by assumption) ?_
      · clear hHeld; intro X hSw; clear hSw; go_simp
      simp only [Act.put, List.getElem_toArray, List.getElem_cons_zero, List.getElem_cons_succ, List.setIfInBounds_toArray, List.set_cons_zero, List.set_cons_succ]
      refine wpAnyH_ready (rs := [6, 10]) (by kernel_rfl) (by simp) ?_
      refine AllReadyH.cons (o := _) rfl (fun K hK => ?_) (AllReadyH.cons (o := _) rfl (fun K hK => ?_) AllReadyH.nil)
      · rw [if_pos (by rfl)]
        simp only [List.getElem_toArray, List.getElem_cons_zero, List.getElem_cons_succ]
        have HK := Lib.hid hK
        have HS := Lib.hid hHeld
        clear hK hHeld
        go_wp2_with (go_at_call 21; refine (HAT.out _ HS.out).mono ?_; rintro e w4 ⟨⟨ya, yc, rfl⟩, hb4, _⟩; have H4 := Lib.hid hb4; clear hb4)
        refine HK.out _ _ H4.out (fun hHeld => ?_)
        clear HK HS
        refine wpAnyH_take (i := 7) (oi := _) (v := .tuple #[.agg #[.int .i64 uid, .int .i64 ukd, .string utx, .slice ya um yc], .bool true]) rfl (by kernel_rfl) (by kernel_rfl) (by kernel_rfl) (fun _ _ _ h => h) (Or.inl ⟨by rfl, ?_⟩) (by assumption) ?_
        · clear hHeld; intro X hSw; clear hSw; go_simp
        simp only [Act.put, List.getElem_toArray, List.getElem_cons_zero, List.getElem_cons_succ, List.setIfInBounds_toArray, List.set_cons_zero, List.set_cons_succ]
        refine wpAnyH_take (i := 8) (oi := _) (v := .agg #[.int .i64 uid, .int .i64 ukd, .string utx, .slice ya um yc]) rfl (by kernel_rfl) (by kernel_rfl) (by kernel_rfl) (fun _ _ _ h => h) (Or.inl ⟨by rfl, ?_⟩) (by assumption) ?_
        · clear hHeld; intro X hSw; clear hSw; go_simp
        simp only [Act.put, List.getElem_toArray, List.getElem_cons_zero, List.getElem_cons_succ, List.setIfInBounds_toArray, List.set_cons_zero, List.set_cons_succ]
        refine wpAnyH_take (i := 9) (oi := _) (v := .bool true) rfl (by kernel_rfl) (by kernel_rfl) (by kernel_rfl) (fun _ _ _ h => h) (Or.inl ⟨by rfl, ?_⟩) (by assumption) ?_
        · clear hHeld; intro X hSw; clear hSw; go_simp
        simp only [Act.put, List.getElem_toArray, List.getElem_cons_zero, List.getElem_cons_succ, List.setIfInBounds_toArray, List.set_cons_zero, List.set_cons_succ]
        refine wpAnyH_ready (rs := [10]) (by kernel_rfl) (by simp) ?_
        refine AllReadyH.cons (o := _) rfl (fun K hK => ?_) AllReadyH.nil
        rw [if_pos (by rfl)]
        simp only [List.getElem_toArray, List.getElem_cons_zero, List.getElem_cons_succ]
        have HK := Lib.hid hK
        have HS := Lib.hid hHeld
        clear hK hHeld
        go_wp2_with fail
        obtain ⟨WA, hWA⟩ : ∃ WA, WA = (World.alloc w4 (.cells #[.int .i64 0, .int .i64 0, .string ⟨#[]⟩, .slice none 0 0] 24)) := ⟨_, rfl⟩
        rw [← hWA]
        have hza : WA.heap[w4.heap.size]? = some (.cells #[.int .i64 0, .int .i64 0, .string ⟨#[]⟩, .slice none 0 0] 24 (0, 0)) := by rw [hWA]; exact heap_alloc_new w4 _
        have hba : Below W.heap.size W WA := by rw [hWA]; exact HS.out.alloc HS.out.size _
        have HA := Lib.hid (And.intro hza (And.intro hba (show W.heap.size ≤ w4.heap.size from HS.out.size)))
        refine HK.out _ _ hba (fun hHeld => ?_)
        clear HK HS hza hba hWA
        refine wpAnyH_ready (rs := [11]) (by kernel_rfl) (by simp) ?_
        refine AllReadyH.cons (o := _) rfl (fun K hK => ?_) AllReadyH.nil
        rw [if_pos (by rfl)]
        simp only [List.getElem_toArray, List.getElem_cons_zero, List.getElem_cons_succ]
        have HK := Lib.hid hK
        have HS := Lib.hid hHeld
        clear hK hHeld
        have hz : WA.heap[w4.heap.size]? = some (.cells #[.int .i64 0, .int .i64 0, .string ⟨#[]⟩, .slice none 0 0] 24 (0, 0)) := HA.out.1
        have z0 : WA.cell? ⟨w4.heap.size, 0, none⟩ = some (.int .i64 0) := by rw [cell_of_row _ _ 0 _ _ _ hz]; rfl
        have z1 : WA.cell? ⟨w4.heap.size, 1, none⟩ = some (.int .i64 0) := by rw [cell_of_row _ _ 1 _ _ _ hz]; rfl
        have z2 : WA.cell? ⟨w4.heap.size, 2, none⟩ = some (.string ⟨#[]⟩) := by rw [cell_of_row _ _ 2 _ _ _ hz]; rfl
        have z3 : WA.cell? ⟨w4.heap.size, 3, none⟩ = some (.slice none 0 0) := by rw [cell_of_row _ _ 3 _ _ _ hz]; rfl
        have zf : ∀ j, WA.frozen? ⟨w4.heap.size, j, none⟩ = false := fun j => frozen_of_row _ _ j _ _ hz
        obtain ⟨V5, e5, r1, r2, r3, r4, r5, r6⟩ := four_set (u0 := .int .i64 uid) (u1 := .int .i64 ukd) (u2 := .string utx) (u3 := .slice ya um yc) hz
        have hb5 : Below W.heap.size W V5 := ⟨r3.trans HS.out.os, r4.trans HS.out.tape, r5.trans HS.out.output, by rw [r6]; exact HS.out.size, fun y hy => (r2 y (by have := HA.out.2.2; omega)).trans (HS.out.block y hy)⟩
        have h5c : V5.cell? ⟨w4.heap.size, 0, none⟩ = some (.int .i64 uid) := by rw [cell_of_row _ _ 0 _ _ _ r1]; rfl
        have H5 := Lib.hid (And.intro hb5 e5)
        clear hz r1 r2 r3 r4 r5 r6 hb5 e5
        go_wp2_with fail
        rw [← H5.out.2]
        refine HK.out _ _ H5.out.1 (fun hHeld => ?_)
        clear HK HS z0 z1 z2 z3 zf
        refine wpAnyH_take (i := 12) (oi := _) (v := .bool true) rfl (by kernel_rfl) (by kernel_rfl) (by kernel_rfl) (fun _ _ _ h => h) (Or.inl ⟨by rfl, ?_⟩) (by assumption) ?_
        · clear hHeld; intro X hSw; clear hSw; go_simp
        simp only [Act.put, List.getElem_toArray, List.getElem_cons_zero, List.getElem_cons_succ, List.setIfInBounds_toArray, List.set_cons_zero, List.set_cons_succ]
        refine wpAnyH_done (by kernel_rfl) ?_ _
        clear hHeld
        go_wp2_with fail
        refine wp_region_quiet (C := fun X => Below V5.heap.size V5 X) (by kernel_rfl) (by kernel_rfl) (below_drewN (Below.refl _ V5) 1) ?_
        refine quiet_open (fun QQ hQQ => ?_)
        have HQQ := Lib.hid hQQ
        clear hQQ
        with_reducible refine wpQuiet_step ?_
        intro K hK
        rw [if_pos (by rfl)]
        refine ⟨.pointer (some ⟨w4.heap.size, 0, none⟩), fun X hX => ?_, hK _ ?_⟩
        · clear hK; go_simp
        clear hK K
        simp only [Act.put, List.setIfInBounds_toArray, List.set_cons_zero, List.set_cons_succ]
        with_reducible refine wpQuiet_step ?_
        intro K hK
        rw [if_pos (by rfl)]
        refine ⟨.int .i64 uid, fun X hX => ?_, hK _ ?_⟩
        · clear hK; have c7 := (hX.cell (World.block_lt_of_cell? _ _ h5c)).trans h5c; go_simp
        clear hK K
        simp only [Act.put, List.setIfInBounds_toArray, List.set_cons_zero, List.set_cons_succ]
        with_reducible refine wpQuiet_step ?_
        intro K hK
        rw [if_pos (by rfl)]
        refine ⟨.slice (some ⟨pg, 0, none⟩) (k + 1) pc, fun X hX => ?_, hK _ ?_⟩
        · clear hK; go_simp
        clear hK K
        simp only [Act.put, List.setIfInBounds_toArray, List.set_cons_zero, List.set_cons_succ]
        with_reducible refine wpQuiet_step ?_
        intro K hK
        rw [if_pos (by rfl)]
        refine ⟨.slice (some ⟨pg, 0, none⟩) (k + 1) pc, fun X hX => ?_, hK _ ?_⟩
        · clear hK; go_simp
        clear hK K
        simp only [Act.put, List.setIfInBounds_toArray, List.set_cons_zero, List.set_cons_succ]
        with_reducible refine wpQuiet_step ?_
        intro K hK
        rw [if_pos (by rfl)]
        refine ⟨.int .i64 ((k : Int) + 1), fun X hX => ?_, hK _ ?_⟩
        · clear hK; go_simp
        clear hK K
        simp only [Act.put, List.setIfInBounds_toArray, List.set_cons_zero, List.set_cons_succ]
        with_reducible refine wpQuiet_step ?_
        intro K hK
        rw [if_pos (by rfl)]
        refine ⟨.int .i64 (k : Int), fun X hX => ?_, hK _ ?_⟩
        · clear hK; go_simp
        clear hK K
        simp only [Act.put, List.setIfInBounds_toArray, List.set_cons_zero, List.set_cons_succ]
        with_reducible refine wpQuiet_step ?_
        intro K hK
        rw [if_pos (by rfl)]
        refine ⟨.pointer (some ⟨pg, k, none⟩), fun X hX => ?_, hK _ ?_⟩
        · clear hK; go_simp
        clear hK K
        simp only [Act.put, List.setIfInBounds_toArray, List.set_cons_zero, List.set_cons_succ]
        with_reducible refine wpQuiet_step ?_
        intro K hK
        rw [if_pos (by rfl)]
        refine ⟨.int .i64 (y : Int), fun X hX => ?_, hK _ ?_⟩
        · clear hK; obtain ⟨s0, s1, s2, s3, s4⟩ := HBX.out X (H5.out.1.trans (hX.mono H5.out.1.size)); go_simp
        clear hK K
        simp only [Act.put, List.setIfInBounds_toArray, List.set_cons_zero, List.set_cons_succ]
        with_reducible refine wpQuiet_step ?_
        intro K hK
        rw [if_pos (by rfl)]
        refine ⟨.int .i64 uid, fun X hX => ?_, hK _ ?_⟩
        · clear hK; go_simp
        clear hK K
        simp only [Act.put, List.setIfInBounds_toArray, List.set_cons_zero, List.set_cons_succ]
        with_reducible refine wpQuiet_step ?_
        intro K hK
        rw [if_pos (by rfl)]
        refine ⟨.int .i64 (y : Int), fun X hX => ?_, hK _ ?_⟩
        · clear hK; go_simp
        clear hK K
        simp only [Act.put, List.setIfInBounds_toArray, List.set_cons_zero, List.set_cons_succ]
        with_reducible refine wpQuiet_step ?_
        intro K hK
        rw [if_pos (by rfl)]
        refine ⟨.bool true, fun X hX => ?_, hK _ ?_⟩
        · clear hK; go_simp
        clear hK K
        simp only [Act.put, List.setIfInBounds_toArray, List.set_cons_zero, List.set_cons_succ]
        refine wpQuiet_nil (HQQ.out _ ?_)
        clear HQQ
        intro V hV
        have HV := Lib.hid hV
        clear hV
        go_wp2_with fail
        go_ret3
        exact ⟨congrArg (fun z : Int × Int × Bool => Ending.returned (.tuple #[.int .i64 z.1, .int .i64 z.2.1, .bool z.2.2])) HE.out.1.symm, HE.out.2.trans ((H5.out.1.trans (HV.out.mono H5.out.1.size)).mono HE.out.2.size)⟩
      · rw [if_pos (by rfl)]
        simp only [List.getElem_toArray, List.getElem_cons_zero, List.getElem_cons_succ]
        have HK := Lib.hid hK
        have HS := Lib.hid hHeld
        clear hK hHeld
        go_wp2_with fail
        obtain ⟨WA, hWA⟩ : ∃ WA, WA = (World.alloc W (.cells #[.int .i64 0, .int .i64 0, .string ⟨#[]⟩, .slice none 0 0] 24)).drew := ⟨_, rfl⟩
        rw [← hWA]
        have hza : WA.heap[W.heap.size]? = some (.cells #[.int .i64 0, .int .i64 0, .string ⟨#[]⟩, .slice none 0 0] 24 (0, 0)) := by rw [hWA]; exact heap_alloc_new W _
        have hba : Below W.heap.size W WA := by rw [hWA]; exact below_drewN (box_below _ _) 1
        have HA := Lib.hid (And.intro hza (And.intro hba (show W.heap.size ≤ W.heap.size from Nat.le_refl _)))
        refine HK.out _ _ hba (fun hHeld => ?_)
        clear HK HS hza hba hWA
        refine wpAnyH_ready (rs := [6]) (by kernel_rfl) (by simp) ?_
        refine AllReadyH.cons (o := _) rfl (fun K hK => ?_) AllReadyH.nil
        rw [if_pos (by rfl)]
        simp only [List.getElem_toArray, List.getElem_cons_zero, List.getElem_cons_succ]
        have HK := Lib.hid hK
        have HS := Lib.hid hHeld
        clear hK hHeld
        go_wp2_with (go_at_call 21; refine (HAT.out _ HS.out).mono ?_; rintro e w4 ⟨⟨ya, yc, rfl⟩, hb4, hb4b⟩; have H4 := Lib.hid hb4; have H4b := Lib.hid (hb4b.block _ (lt_of_heap HA.out.1)); clear hb4 hb4b)
        refine HK.out _ _ H4.out (fun hHeld => ?_)
        clear HK HS
        refine wpAnyH_take (i := 7) (oi := _) (v := .tuple #[.agg #[.int .i64 uid, .int .i64 ukd, .string utx, .slice ya um yc], .bool true]) rfl (by kernel_rfl) (by kernel_rfl) (by kernel_rfl) (fun _ _ _ h => h) (Or.inl ⟨by rfl, ?_⟩) (by assumption) ?_
        · clear hHeld; intro X hSw; clear hSw; go_simp
        simp only [Act.put, List.getElem_toArray, List.getElem_cons_zero, List.getElem_cons_succ, List.setIfInBounds_toArray, List.set_cons_zero, List.set_cons_succ]
        refine wpAnyH_take (i := 8) (oi := _) (v := .agg #[.int .i64 uid, .int .i64 ukd, .string utx, .slice ya um yc]) rfl (by kernel_rfl) (by kernel_rfl) (by kernel_rfl) (fun _ _ _ h => h) (Or.inl ⟨by rfl, ?_⟩) (by assumption) ?_
        · clear hHeld; intro X hSw; clear hSw; go_simp
        simp only [Act.put, List.getElem_toArray, List.getElem_cons_zero, List.getElem_cons_succ, List.setIfInBounds_toArray, List.set_cons_zero, List.set_cons_succ]
        refine wpAnyH_take (i := 9) (oi := _) (v := .bool true) rfl (by kernel_rfl) (by kernel_rfl) (by kernel_rfl) (fun _ _ _ h => h) (Or.inl ⟨by rfl, ?_⟩) (by assumption) ?_
        · clear hHeld; intro X hSw; clear hSw; go_simp
        simp only [Act.put, List.getElem_toArray, List.getElem_cons_zero, List.getElem_cons_succ, List.setIfInBounds_toArray, List.set_cons_zero, List.set_cons_succ]
        refine wpAnyH_ready (rs := [11]) (by kernel_rfl) (by simp) ?_
        refine AllReadyH.cons (o := _) rfl (fun K hK => ?_) AllReadyH.nil
        rw [if_pos (by rfl)]
        simp only [List.getElem_toArray, List.getElem_cons_zero, List.getElem_cons_succ]
        have HK := Lib.hid hK
        have HS := Lib.hid hHeld
        clear hK hHeld
        have hz : w4.heap[W.heap.size]? = some (.cells #[.int .i64 0, .int .i64 0, .string ⟨#[]⟩, .slice none 0 0] 24 (0, 0)) := (H4b.out).trans HA.out.1
        have z0 : w4.cell? ⟨W.heap.size, 0, none⟩ = some (.int .i64 0) := by rw [cell_of_row _ _ 0 _ _ _ hz]; rfl
        have z1 : w4.cell? ⟨W.heap.size, 1, none⟩ = some (.int .i64 0) := by rw [cell_of_row _ _ 1 _ _ _ hz]; rfl
        have z2 : w4.cell? ⟨W.heap.size, 2, none⟩ = some (.string ⟨#[]⟩) := by rw [cell_of_row _ _ 2 _ _ _ hz]; rfl
        have z3 : w4.cell? ⟨W.heap.size, 3, none⟩ = some (.slice none 0 0) := by rw [cell_of_row _ _ 3 _ _ _ hz]; rfl
        have zf : ∀ j, w4.frozen? ⟨W.heap.size, j, none⟩ = false := fun j => frozen_of_row _ _ j _ _ hz
        obtain ⟨V5, e5, r1, r2, r3, r4, r5, r6⟩ := four_set (u0 := .int .i64 uid) (u1 := .int .i64 ukd) (u2 := .string utx) (u3 := .slice ya um yc) hz
        have hb5 : Below W.heap.size W V5 := ⟨r3.trans HS.out.os, r4.trans HS.out.tape, r5.trans HS.out.output, by rw [r6]; exact HS.out.size, fun y hy => (r2 y (by have := HA.out.2.2; omega)).trans (HS.out.block y hy)⟩
        have h5c : V5.cell? ⟨W.heap.size, 0, none⟩ = some (.int .i64 uid) := by rw [cell_of_row _ _ 0 _ _ _ r1]; rfl
        have H5 := Lib.hid (And.intro hb5 e5)
        clear hz r1 r2 r3 r4 r5 r6 hb5 e5
        go_wp2_with fail
        rw [← H5.out.2]
        refine HK.out _ _ H5.out.1 (fun hHeld => ?_)
        clear HK HS z0 z1 z2 z3 zf
        refine wpAnyH_take (i := 12) (oi := _) (v := .bool true) rfl (by kernel_rfl) (by kernel_rfl) (by kernel_rfl) (fun _ _ _ h => h) (Or.inl ⟨by rfl, ?_⟩) (by assumption) ?_
        · clear hHeld; intro X hSw; clear hSw; go_simp
        simp only [Act.put, List.getElem_toArray, List.getElem_cons_zero, List.getElem_cons_succ, List.setIfInBounds_toArray, List.set_cons_zero, List.set_cons_succ]
        refine wpAnyH_done (by kernel_rfl) ?_ _
        clear hHeld
        go_wp2_with fail
        refine wp_region_quiet (C := fun X => Below V5.heap.size V5 X) (by kernel_rfl) (by kernel_rfl) (below_drewN (Below.refl _ V5) 1) ?_
        refine quiet_open (fun QQ hQQ => ?_)
        have HQQ := Lib.hid hQQ
        clear hQQ
        with_reducible refine wpQuiet_step ?_
        intro K hK
        rw [if_pos (by rfl)]
        refine ⟨.pointer (some ⟨W.heap.size, 0, none⟩), fun X hX => ?_, hK _ ?_⟩
        · clear hK; go_simp
        clear hK K
        simp only [Act.put, List.setIfInBounds_toArray, List.set_cons_zero, List.set_cons_succ]
        with_reducible refine wpQuiet_step ?_
        intro K hK
        rw [if_pos (by rfl)]
        refine ⟨.int .i64 uid, fun X hX => ?_, hK _ ?_⟩
        · clear hK; have c7 := (hX.cell (World.block_lt_of_cell? _ _ h5c)).trans h5c; go_simp
        clear hK K
        simp only [Act.put, List.setIfInBounds_toArray, List.set_cons_zero, List.set_cons_succ]
        with_reducible refine wpQuiet_step ?_
        intro K hK
        rw [if_pos (by rfl)]
        refine ⟨.slice (some ⟨pg, 0, none⟩) (k + 1) pc, fun X hX => ?_, hK _ ?_⟩
        · clear hK; go_simp
        clear hK K
        simp only [Act.put, List.setIfInBounds_toArray, List.set_cons_zero, List.set_cons_succ]
        with_reducible refine wpQuiet_step ?_
        intro K hK
        rw [if_pos (by rfl)]
        refine ⟨.slice (some ⟨pg, 0, none⟩) (k + 1) pc, fun X hX => ?_, hK _ ?_⟩
        · clear hK; go_simp
        clear hK K
        simp only [Act.put, List.setIfInBounds_toArray, List.set_cons_zero, List.set_cons_succ]
        with_reducible refine wpQuiet_step ?_
        intro K hK
        rw [if_pos (by rfl)]
        refine ⟨.int .i64 ((k : Int) + 1), fun X hX => ?_, hK _ ?_⟩
        · clear hK; go_simp
        clear hK K
        simp only [Act.put, List.setIfInBounds_toArray, List.set_cons_zero, List.set_cons_succ]
        with_reducible refine wpQuiet_step ?_
        intro K hK
        rw [if_pos (by rfl)]
        refine ⟨.int .i64 (k : Int), fun X hX => ?_, hK _ ?_⟩
        · clear hK; go_simp
        clear hK K
        simp only [Act.put, List.setIfInBounds_toArray, List.set_cons_zero, List.set_cons_succ]
        with_reducible refine wpQuiet_step ?_
        intro K hK
        rw [if_pos (by rfl)]
        refine ⟨.pointer (some ⟨pg, k, none⟩), fun X hX => ?_, hK _ ?_⟩
        · clear hK; go_simp
        clear hK K
        simp only [Act.put, List.setIfInBounds_toArray, List.set_cons_zero, List.set_cons_succ]
        with_reducible refine wpQuiet_step ?_
        intro K hK
        rw [if_pos (by rfl)]
        refine ⟨.int .i64 (y : Int), fun X hX => ?_, hK _ ?_⟩
        · clear hK; obtain ⟨s0, s1, s2, s3, s4⟩ := HBX.out X (H5.out.1.trans (hX.mono H5.out.1.size)); go_simp
        clear hK K
        simp only [Act.put, List.setIfInBounds_toArray, List.set_cons_zero, List.set_cons_succ]
        with_reducible refine wpQuiet_step ?_
        intro K hK
        rw [if_pos (by rfl)]
        refine ⟨.int .i64 uid, fun X hX => ?_, hK _ ?_⟩
        · clear hK; go_simp
        clear hK K
        simp only [Act.put, List.setIfInBounds_toArray, List.set_cons_zero, List.set_cons_succ]
        with_reducible refine wpQuiet_step ?_
        intro K hK
        rw [if_pos (by rfl)]
        refine ⟨.int .i64 (y : Int), fun X hX => ?_, hK _ ?_⟩
        · clear hK; go_simp
        clear hK K
        simp only [Act.put, List.setIfInBounds_toArray, List.set_cons_zero, List.set_cons_succ]
        with_reducible refine wpQuiet_step ?_
        intro K hK
        rw [if_pos (by rfl)]
        refine ⟨.bool true, fun X hX => ?_, hK _ ?_⟩
        · clear hK; go_simp
        clear hK K
        simp only [Act.put, List.setIfInBounds_toArray, List.set_cons_zero, List.set_cons_succ]
        refine wpQuiet_nil (HQQ.out _ ?_)
        clear HQQ
        intro V hV
        have HV := Lib.hid hV
        clear hV
        go_wp2_with fail
        go_ret3
        exact ⟨congrArg (fun z : Int × Int × Bool => Ending.returned (.tuple #[.int .i64 z.1, .int .i64 z.2.1, .bool z.2.2])) HE.out.1.symm, HE.out.2.trans ((H5.out.1.trans (HV.out.mono H5.out.1.size)).mono HE.out.2.size)⟩
end Go.Proofs.Ytjppibomjnmjpaa
