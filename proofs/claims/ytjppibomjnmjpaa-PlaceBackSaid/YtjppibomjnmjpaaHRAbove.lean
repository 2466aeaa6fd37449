/-
  The document's own Above. No condition but that there are not too many nodes.
-/
import Derived.Deep.RegionHeld
import Derived.Test.YtjppibomjnmjpaaHRAt
import Derived.Test.YtjppibomjnmjpaaHRPath
import Derived.Test.YtjppibomjnmjpaaHLawA
namespace Go.Proofs.Ytjppibomjnmjpaa
open Go.RowKit Go.Shelf
set_option linter.unusedVariables false
set_option linter.unusedSimpArgs false

/-- What is put behind: so many ids, from the last one on. -/
def RAbList (t : Tr) (p : List Nat) (j : Nat) : List Int := ((wayIds t p).take p.length).reverse.take j
structure RAbI (w : World) (t : Tr) (p : List Nat) (bx : Array Value) (pv : Value) (j : Nat) (lv : Value) (wr : World) : Prop where
  row : wr.ownsRow w.heap.size 3 1 lv j ((RAbList t p j).map intV)
  below : Below w.heap.size w wr
  box : wr.heap[w.heap.size]? = some (.cells bx 24 (0, 0))
  path : wr.ownsRow w.heap.size 3 1 pv p.length ((natI p).map intV)
  apart : ∀ g, lv.ownBlock = some g → pv.ownBlock ≠ some g ∧ g ≠ w.heap.size
theorem pathT_at : ∀ (id : Int) (t : Tr) (p : List Nat), pathT id t = some p → ∃ u, atT t p = some u ∧ u.id = id := by
  have key : ∀ (f : Fo) (id : Int) (i : Nat) (p : List Nat), fpi id i f = some p → ∃ j q u, p = (i + j) :: q ∧ ∃ v, kidF f j = some v ∧ atT v q = some u ∧ u.id = id := by
    intro f
    induction f with
    | nil => intro id i p h; simp [fpi] at h
    | node b o k l r ihl ihr =>
      intro id i p h
      simp only [fpi] at h
      split at h
      · rename_i hk
        cases h
        exact ⟨0, [], ⟨k.1, k.2.1, k.2.2, l⟩, rfl, _, rfl, rfl, hk⟩
      · split at h
        · rename_i q hq
          cases h
          obtain ⟨j, q', u, e, v, h1, h2, h3⟩ := ihl id 0 q hq
          subst e
          refine ⟨0, (0 + j) :: q', u, rfl, ⟨k.1, k.2.1, k.2.2, l⟩, rfl, ?_, h3⟩
          rw [atT]; simp only [Nat.zero_add, h1]; exact h2
        · obtain ⟨j, q', u, e, v, h1, h2, h3⟩ := ihr id (i + 1) p h
          refine ⟨j + 1, q', u, by rw [e]; congr 1; omega, v, ?_, h2, h3⟩
          simpa [kidF, foDrop] using h1
  intro id t p h
  rw [pathT] at h
  split at h
  · rename_i hid
    cases h
    exact ⟨t, rfl, hid⟩
  · obtain ⟨j, q, u, e, v, h1, h2, h3⟩ := key _ _ _ _ h
    subst e
    exact ⟨u, by rw [atT]; simp only [Nat.zero_add, h1]; exact h2, h3⟩
theorem atT_take : ∀ (p : List Nat) (t u : Tr) (k : Nat), atT t p = some u → ∃ v, atT t (p.take k) = some v
  | _, t, _, 0, _ => ⟨t, rfl⟩
  | [], t, _, k + 1, _ => ⟨t, rfl⟩
  | i :: p, t, u, k + 1, h => by
    rw [atT] at h
    rw [List.take_succ_cons, atT]
    cases hk : kidF t.kids i with
    | none => rw [hk] at h; cases h
    | some v => rw [hk] at h; exact atT_take p v u k h
theorem rab_next {t : Tr} {p : List Nat} {j k : Nat} {u : Tr} (hjk : j + (k + 1) = p.length) (hu : atT t (p.take k) = some u) : RAbList t p (j + 1) = RAbList t p j ++ [u.id] := by
  have hk : k < p.length := by omega
  have hl : ((wayIds t p).take p.length).length = p.length := by simp [wayIds]
  have hx : ((wayIds t p).take p.length).reverse[j]? = some u.id := by
    rw [List.getElem?_reverse (by omega), hl, List.getElem?_take_of_lt (by omega), wayIds, List.getElem?_map, List.getElem?_range (by omega)]
    have e : p.length - 1 - j = k := by omega
    simp [e, idAt, hu]
  rw [RAbList, RAbList, List.take_add_one, hx]; rfl
set_option maxRecDepth 100000 in
set_option maxHeartbeats 8000000 in
theorem rabove_any (w : World) (S : Nat → Prop) (nv : Value) (t : Tr) (id : Int) (hS : ∀ x, S x → x < w.heap.size) (ht : TrAt w S nv t) (hsz : foSize t.kids ≤ 400000) (hlen : foLen t.kids ≤ 9223372036854775807) (hfit : foFit t.kids) : Calls Try.prog 12 #[nv, .int .i64 id] w (IntsC w (aboveT id t)) := by
  obtain ⟨ka, tc, rfl, hcap, hk⟩ := ht
  have hb := box_below w (.cells #[.int .i64 t.id, .int .i64 t.kind, .string t.text, .slice ka (foLen t.kids) tc] 24)
  have hbx := heap_alloc_new w (.cells #[.int .i64 t.id, .int .i64 t.kind, .string t.text, .slice ka (foLen t.kids) tc] 24)
  have hpath := rpath_any 500000 (w.alloc (.cells #[.int .i64 t.id, .int .i64 t.kind, .string t.text, .slice ka (foLen t.kids) tc] 24)) S _ t id (by omega) (by omega) (fun x hx => Nat.lt_of_lt_of_le (hS x hx) hb.size) ⟨ka, tc, rfl, hcap, hk.below hb hS⟩
  have hat : ∀ (X : World) (hX : Below w.heap.size w X) (pa : Option Addr) (n pc : Nat) (l : List Nat) (u : Tr) (hp : IntsL X (fun y => y < X.heap.size) pa pc (natI l)) (hn : n = (natI l).length) (hnb : n ≤ 1000000) (hu : atT t l = some u), Calls Try.prog 21 #[.agg #[.int .i64 t.id, .int .i64 t.kind, .string t.text, .slice ka (foLen t.kids) tc], .slice pa n pc] X fun e w' => (∃ ya yc, e = .returned (.tuple #[.agg #[.int .i64 u.id, .int .i64 u.kind, .string u.text, .slice ya (foLen u.kids) yc], .bool true])) ∧ Below X.heap.size X w' := fun X hX pa n pc l u hp hn hnb hu => by
    refine (rat_any X S (.agg #[.int .i64 t.id, .int .i64 t.kind, .string t.text, .slice ka (foLen t.kids) tc]) t pa n pc (natI l) (fun x hx => Nat.lt_of_lt_of_le (hS x hx) hX.size) ⟨ka, tc, rfl, hcap, hk.below hX hS⟩ hlen hfit _ (fun _ h => h) hp hn hnb).mono ?_
    rintro e w' ⟨v, rfl, hv, hb⟩
    rw [atI_nat, hu] at hv ⊢
    obtain ⟨ya, yc, rfl, _⟩ := hv
    exact ⟨⟨ya, yc, rfl⟩, hb⟩
  obtain ⟨nk, hnk⟩ : ∃ n, n = foLen t.kids := ⟨_, rfl⟩
  rw [← hnk] at hb hbx hpath ⊢
  simp only [← hnk] at hat
  have HC := Lib.hid (And.intro hpath (And.intro hb hbx))
  have HATT := Lib.hid hat
  have HSZ := Lib.hid hsz
  obtain ⟨i0, hi, hz0, hz1, hz2⟩ := info_parts Try.infoInt
  have HI := Lib.hid (And.intro hi (And.intro hz0 (And.intro hz1 hz2)))
  obtain ⟨ab, hab⟩ : ∃ ab, ab = aboveT id t := ⟨_, rfl⟩
  rw [← hab]
  clear hi hz0 hz1 hz2 hb hbx hpath hat hk hcap hS hnk hlen hfit hsz
  go_enter Try.func12, Try.ntmps12
  go_wp2_with fail
  refine HC.out.1.mono ?_
  rintro e W ⟨pv, rfl, hown, hbW⟩
  have hbW2 : Below w.heap.size w W := HC.out.2.1.trans (hbW.mono HC.out.2.1.size)
  cases hpt : pathT id t with
  | none =>
    have hE : ab = [] := by rw [hab, aboveT, hpt]
    have HE := Lib.hid (And.intro hE hbW2)
    clear hown hbW hbW2 HC hpt hE hab
    simp only [Option.isSome_none]
    go_wp2_with fail
    go_ret
    exact ⟨.slice none 0 0, rfl, by rw [HE.out.1]; exact World.ownsRow_nil _ _ _ _, HE.out.2⟩
  | some p =>
    rw [hpt] at hown
    simp only [Option.getD_some] at hown
    rw [natI_length] at hown
    obtain ⟨pa, pc, rfl⟩ := owns_slice hown
    obtain ⟨n, hn⟩ : ∃ n, n = p.length := ⟨_, rfl⟩
    rw [← hn] at hown ⊢
    have hn6 : n ≤ 500000 := by
      have h9 := idsOf_le id t
      rw [idsOf_length id t p hpt] at h9
      have := HSZ.out; omega
    have hs1 := HC.out.2.1.size
    have hbxW := (hbW.block _ (lt_of_heap HC.out.2.2)).trans HC.out.2.2
    have hs2 := lt_of_heap HC.out.2.2
    have HST : Hid (RAbI w t p #[.int .i64 t.id, .int .i64 t.kind, .string t.text, .slice ka nk tc] (.slice pa n pc) 0 (.slice none 0 0) W) := Lib.hid ⟨World.ownsRow_nil _ _ _ _, hbW2, hbxW, by rw [← hn]; exact owns_mono hown hs1, fun g hg => (by cases hg)⟩
    have hE : ab = RAbList t p n := by rw [hab, aboveT, hpt, hn, RAbList, List.take_of_length_le (by simp [wayIds])]
    obtain ⟨uu, huu, _⟩ := pathT_at id t p hpt
    have HE := Lib.hid (And.intro hE (And.intro hn huu))
    have hn0 : (0 : Int) ≤ (n : Int) := by omega
    have hnw : IntKind.i64.wrap ((n : Int) - 1) = (n : Int) - 1 := IntWalk.i64_in _ (by omega)
    clear hown hbW hbW2 HC hpt hE hab hs1 hbxW huu hs2 hn
    simp only [Option.isSome_some]
    go_wp2_with fail
    go_loopw [7, 8] (fun lv i wr => ∃ j : Nat, j ≤ n ∧ i = .int .i64 ((n : Int) - 1 - (j : Int)) ∧ Hid (RAbI w t p #[.int .i64 t.id, .int .i64 t.kind, .string t.text, .slice ka nk tc] (.slice pa n pc) j lv wr)) (fun _ i _ => (intOf i + 1).toNat)
    case atStart => exact ⟨0, Nat.zero_le _, by simp, HST⟩
    case round =>
      obtain ⟨j, hj, rfl, hh⟩ := hrel
      clear HST hnw
      by_cases hlt : j < n
      · obtain ⟨k, hk⟩ : ∃ k : Nat, (n : Int) - 1 - (j : Int) = (k : Int) := ⟨n - 1 - j, by omega⟩
        rw [hk]
        obtain ⟨u, hu⟩ := atT_take p t uu k HE.out.2.2
        obtain ⟨ra, rc, rfl⟩ := owns_slice hh.out.row
        have hnx := rab_next (j := j) (k := k) (by have := HE.out.2.1; omega) hu
        obtain ⟨uid, huid⟩ : ∃ x, x = u.id := ⟨_, rfl⟩
        obtain ⟨ukd, hukd⟩ : ∃ x, x = u.kind := ⟨_, rfl⟩
        obtain ⟨utx, hutx⟩ : ∃ x, x = u.text := ⟨_, rfl⟩
        obtain ⟨um, hum⟩ : ∃ x, x = foLen u.kids := ⟨_, rfl⟩
        have hHB := hh.out
        have hpo := hHB.path
        rw [← HE.out.2.1] at hpo
        have HAT : Hid (∀ X, Below wr.heap.size wr X → Calls Try.prog 21 #[.agg #[.int .i64 t.id, .int .i64 t.kind, .string t.text, .slice ka nk tc], .slice pa k pc] X fun e w' => (∃ ya yc, e = .returned (.tuple #[.agg #[.int .i64 uid, .int .i64 ukd, .string utx, .slice ya um yc], .bool true])) ∧ Below wr.heap.size wr w' ∧ Below X.heap.size X w') := Lib.hid fun X hX => by
          have hbX : Below w.heap.size w X := hHB.below.trans (hX.mono hHB.below.size)
          have hpX := owns_kept hpo (w' := X) (fun g cur hc _ => hX.block g (lt_of_some hc))
          have hil := (intsL_own (l := natI p) hpX).1
          have hil2 := (IntsL.take hil k).kept (w' := X) (S' := fun y => y < X.heap.size) (fun y hy => ⟨hy.2, rfl⟩)
          have he : (natI p).take k = natI (p.take k) := by simp [natI, List.map_take]
          rw [he] at hil2
          have hkp : k ≤ p.length := by have := HE.out.2.1; omega
          refine (HATT.out X hbX pa k pc (p.take k) u hil2 (by rw [natI_length, List.length_take]; omega) (by omega) hu).mono ?_
          rintro e w' ⟨h1, h2⟩
          rw [← huid, ← hukd, ← hutx, ← hum] at h1
          exact ⟨h1, hX.trans (h2.mono hX.size), h2⟩
        have hbox := hHB.box
        have b0 : wr.cell? ⟨w.heap.size, 0, none⟩ = some (.int .i64 t.id) := by rw [cell_of_row _ _ 0 _ _ _ hbox]; rfl
        have b1 : wr.cell? ⟨w.heap.size, 1, none⟩ = some (.int .i64 t.kind) := by rw [cell_of_row _ _ 1 _ _ _ hbox]; rfl
        have b2 : wr.cell? ⟨w.heap.size, 2, none⟩ = some (.string t.text) := by rw [cell_of_row _ _ 2 _ _ _ hbox]; rfl
        have b3 : wr.cell? ⟨w.heap.size, 3, none⟩ = some (.slice ka nk tc) := by rw [cell_of_row _ _ 3 _ _ _ hbox]; rfl
        have HBX := Lib.hid (fun (X : World) (h : Below wr.heap.size wr X) => (show X.cell? ⟨w.heap.size, 0, none⟩ = some (.int .i64 t.id) ∧ X.cell? ⟨w.heap.size, 1, none⟩ = some (.int .i64 t.kind) ∧ X.cell? ⟨w.heap.size, 2, none⟩ = some (.string t.text) ∧ X.cell? ⟨w.heap.size, 3, none⟩ = some (.slice ka nk tc) from
          ⟨(h.cell (World.block_lt_of_cell? _ _ b0)).trans b0, (h.cell (World.block_lt_of_cell? _ _ b1)).trans b1, (h.cell (World.block_lt_of_cell? _ _ b2)).trans b2, (h.cell (World.block_lt_of_cell? _ _ b3)).trans b3⟩))
        have HG := Lib.hid (And.intro hlt (And.intro hk (And.intro hHB.row (And.intro hHB.below.size hHB))))
        -- what a round leaves
        have HNX : Hid (∀ (V5 w7 : World) (v' : Value) (o : Obj), Below wr.heap.size wr V5 → w7.ownsRow w.heap.size 3 1 v' (j + 1) ((RAbList t p j).map intV ++ [.int .i64 uid]) → (V5.alloc o).grownBy w7 (Value.slice ra j rc).ownBlock → (v'.ownBlock = (Value.slice ra j rc).ownBlock ∨ v'.ownBlock = some (V5.alloc o).heap.size) → RAbI w t p #[.int .i64 t.id, .int .i64 t.kind, .string t.text, .slice ka nk tc] (.slice pa n pc) (j + 1) v' w7) := Lib.hid fun V5 w7 v' o hb5 hown hgr hat => by
          have hsz5 := hb5.size
          have hgs := hgr.size
          rw [World.size_alloc] at hgs
          have hwk : ∀ y, y < wr.heap.size → (Value.slice ra j rc).ownBlock ≠ some y → w7.heap[y]? = wr.heap[y]? := fun y hy hn => by
            rw [hgr.block y (by rw [World.size_alloc]; omega) (fun e => hn e.symm), Below.heap_alloc _ _ _ (by omega), hb5.block y hy]
          have hbs := hHB.below.size
          refine ⟨by rw [hnx, ← huid, List.map_append]; exact hown, ⟨hgr.os.trans (hb5.os.trans hHB.below.os), hgr.tape.trans (hb5.tape.trans hHB.below.tape), hgr.output.trans (hb5.output.trans hHB.below.output), by omega, fun y hy => (hwk y (by omega) (fun e => by have := (owns_bounds hHB.row e).1; omega)).trans (hHB.below.block y hy)⟩, (hwk _ (lt_of_heap hHB.box) (fun e => (hHB.apart _ e).2 rfl)).trans hHB.box, owns_kept hHB.path (fun g cur hc hg => hwk g (lt_of_some hc) (fun e => (hHB.apart g e).1 hg)), fun g hg => ?_⟩
          rcases hat with e | e
          · exact hHB.apart g (by rw [← e]; exact hg)
          · rw [e] at hg; cases hg
            rw [World.size_alloc]
            refine ⟨fun e2 => ?_, ?_⟩
            · have := (owns_bounds hHB.path e2).2; omega
            · have := lt_of_heap hHB.box; omega
        have hk0 : (0 : Int) ≤ (k : Int) := by omega
        have hkn : (k : Int) ≤ (pc : Int) := by
          have : n ≤ pc := by
            rcases hpo.2 with ⟨hv, h0⟩ | ⟨_, _, _, hv, _, _, h3, _⟩
            · omega
            · cases hv; exact h3
          omega
        have hj6 : j ≤ 500000 := by omega
        have hkw : IntKind.i64.wrap ((k : Int) - 1) = (k : Int) - 1 := IntWalk.i64_in _ (by omega)
        clear hh hHB hpo hbox b0 b1 b2 b3 hu hnx huid hukd hutx hum hlt hj hk
        go_wp2_with fail
        refine wp_region_held_drew (S := fun X => Below wr.heap.size wr X) (by kernel_rfl) (below_drewN (Below.refl _ wr) 1) (fun hHeld => ?_)
        refine wpAnyH_take (i := 0) (oi := _) (v := .agg #[.int .i64 t.id, .int .i64 t.kind, .string t.text, .slice ka nk tc]) rfl (by kernel_rfl) (by kernel_rfl) (by kernel_rfl) (fun _ _ _ h => h) (Or.inl ⟨by rfl, ?_⟩) (by assumption) ?_
        · clear hHeld; intro X hSw; obtain ⟨s0, s1, s2, s3⟩ := HBX.out X hSw; clear hSw; go_simp
        simp only [Act.put, List.getElem_toArray, List.getElem_cons_zero, List.getElem_cons_succ, List.setIfInBounds_toArray, List.set_cons_zero, List.set_cons_succ]
        refine wpAnyH_take (i := 1) (oi := _) (v := .slice pa n pc) rfl (by kernel_rfl) (by kernel_rfl) (by kernel_rfl) (fun _ _ _ h => h) (Or.inl ⟨by rfl, ?_⟩) (by assumption) ?_
        · clear hHeld; intro X hSw; clear hSw; go_simp
        simp only [Act.put, List.getElem_toArray, List.getElem_cons_zero, List.getElem_cons_succ, List.setIfInBounds_toArray, List.set_cons_zero, List.set_cons_succ]
        refine wpAnyH_take (i := 2) (oi := _) (v := .int .i64 (k : Int)) rfl (by kernel_rfl) (by kernel_rfl) (by kernel_rfl) (fun _ _ _ h => h) (Or.inl ⟨by rfl, ?_⟩) (by assumption) ?_
        · clear hHeld; intro X hSw; clear hSw; go_simp
        simp only [Act.put, List.getElem_toArray, List.getElem_cons_zero, List.getElem_cons_succ, List.setIfInBounds_toArray, List.set_cons_zero, List.set_cons_succ]
        refine wpAnyH_take (i := 3) (oi := _) (v := .slice pa k pc) rfl (by kernel_rfl) (by kernel_rfl) (by kernel_rfl) (fun _ _ _ h => h) (Or.inl ⟨by rfl, ?_⟩) (by assumption) ?_
        · clear hHeld; intro X hSw; clear hSw; go_simp
        simp only [Act.put, List.getElem_toArray, List.getElem_cons_zero, List.getElem_cons_succ, List.setIfInBounds_toArray, List.set_cons_zero, List.set_cons_succ]
        refine wpAnyH_ready (rs := [4, 8]) (by kernel_rfl) (by simp) ?_
        refine AllReadyH.cons (o := _) rfl (fun K hK => ?_) (AllReadyH.cons (o := _) rfl (fun K hK => ?_) AllReadyH.nil)
        · rw [if_pos (by rfl)]
          simp only [List.getElem_toArray, List.getElem_cons_zero, List.getElem_cons_succ]
          have HK := Lib.hid hK
          have HS := Lib.hid hHeld
          clear hK hHeld
          go_wp2_with (go_at_call 21; refine (HAT.out _ HS.out).mono ?_; rintro e w4 ⟨⟨ya, yc, rfl⟩, hb4, _⟩; have H4 := Lib.hid hb4; clear hb4)
          refine HK.out _ _ H4.out (fun hHeld => ?_)
          clear HK HS
          refine wpAnyH_take (i := 5) (oi := _) (v := .tuple #[.agg #[.int .i64 uid, .int .i64 ukd, .string utx, .slice ya um yc], .bool true]) rfl (by kernel_rfl) (by kernel_rfl) (by kernel_rfl) (fun _ _ _ h => h) (Or.inl ⟨by rfl, ?_⟩) (by assumption) ?_
          · clear hHeld; intro X hSw; clear hSw; go_simp
          simp only [Act.put, List.getElem_toArray, List.getElem_cons_zero, List.getElem_cons_succ, List.setIfInBounds_toArray, List.set_cons_zero, List.set_cons_succ]
          refine wpAnyH_take (i := 6) (oi := _) (v := .agg #[.int .i64 uid, .int .i64 ukd, .string utx, .slice ya um yc]) rfl (by kernel_rfl) (by kernel_rfl) (by kernel_rfl) (fun _ _ _ h => h) (Or.inl ⟨by rfl, ?_⟩) (by assumption) ?_
          · clear hHeld; intro X hSw; clear hSw; go_simp
          simp only [Act.put, List.getElem_toArray, List.getElem_cons_zero, List.getElem_cons_succ, List.setIfInBounds_toArray, List.set_cons_zero, List.set_cons_succ]
          refine wpAnyH_take (i := 7) (oi := _) (v := .bool true) rfl (by kernel_rfl) (by kernel_rfl) (by kernel_rfl) (fun _ _ _ h => h) (Or.inl ⟨by rfl, ?_⟩) (by assumption) ?_
          · clear hHeld; intro X hSw; clear hSw; go_simp
          simp only [Act.put, List.getElem_toArray, List.getElem_cons_zero, List.getElem_cons_succ, List.setIfInBounds_toArray, List.set_cons_zero, List.set_cons_succ]
          refine wpAnyH_ready (rs := [8]) (by kernel_rfl) (by simp) ?_
          refine AllReadyH.cons (o := _) rfl (fun K hK => ?_) AllReadyH.nil
          rw [if_pos (by rfl)]
          simp only [List.getElem_toArray, List.getElem_cons_zero, List.getElem_cons_succ]
          have HK := Lib.hid hK
          have HS := Lib.hid hHeld
          clear hK hHeld
          go_wp2_with fail
          obtain ⟨WA, hWA⟩ : ∃ WA, WA = (World.alloc w4 (.cells #[.int .i64 0, .int .i64 0, .string ⟨#[]⟩, .slice none 0 0] 24)) := ⟨_, rfl⟩
          rw [← hWA]
          have hza : WA.heap[w4.heap.size]? = some (.cells #[.int .i64 0, .int .i64 0, .string ⟨#[]⟩, .slice none 0 0] 24 (0, 0)) := by rw [hWA]; exact heap_alloc_new w4 _
          have hba : Below wr.heap.size wr WA := by rw [hWA]; exact HS.out.alloc HS.out.size _
          have HA := Lib.hid (And.intro hza (And.intro hba (show wr.heap.size ≤ w4.heap.size from HS.out.size)))
          refine HK.out _ _ hba (fun hHeld => ?_)
          clear HK HS hza hba hWA
          refine wpAnyH_ready (rs := [9]) (by kernel_rfl) (by simp) ?_
          refine AllReadyH.cons (o := _) rfl (fun K hK => ?_) AllReadyH.nil
          rw [if_pos (by rfl)]
          simp only [List.getElem_toArray, List.getElem_cons_zero, List.getElem_cons_succ]
          have HK := Lib.hid hK
          have HS := Lib.hid hHeld
          clear hK hHeld
          have hz : WA.heap[w4.heap.size]? = some (.cells #[.int .i64 0, .int .i64 0, .string ⟨#[]⟩, .slice none 0 0] 24 (0, 0)) := HA.out.1
          have z0 : WA.cell? ⟨w4.heap.size, 0, none⟩ = some (.int .i64 0) := by rw [cell_of_row _ _ 0 _ _ _ hz]; rfl
          have z1 : WA.cell? ⟨w4.heap.size, 1, none⟩ = some (.int .i64 0) := by rw [cell_of_row _ _ 1 _ _ _ hz]; rfl
          have z2 : WA.cell? ⟨w4.heap.size, 2, none⟩ = some (.string ⟨#[]⟩) := by rw [cell_of_row _ _ 2 _ _ _ hz]; rfl
          have z3 : WA.cell? ⟨w4.heap.size, 3, none⟩ = some (.slice none 0 0) := by rw [cell_of_row _ _ 3 _ _ _ hz]; rfl
          have zf : ∀ j, WA.frozen? ⟨w4.heap.size, j, none⟩ = false := fun j => frozen_of_row _ _ j _ _ hz
          obtain ⟨V5, e5, r1, r2, r3, r4, r5, r6⟩ := four_set (u0 := .int .i64 uid) (u1 := .int .i64 ukd) (u2 := .string utx) (u3 := .slice ya um yc) hz
          have hb5 : Below wr.heap.size wr V5 := ⟨r3.trans HS.out.os, r4.trans HS.out.tape, r5.trans HS.out.output, by rw [r6]; exact HS.out.size, fun y hy => (r2 y (by have := HA.out.2.2; omega)).trans (HS.out.block y hy)⟩
          have h5c : V5.cell? ⟨w4.heap.size, 0, none⟩ = some (.int .i64 uid) := by rw [cell_of_row _ _ 0 _ _ _ r1]; rfl
          have H5 := Lib.hid (And.intro hb5 e5)
          clear hz r1 r2 r3 r4 r5 r6 hb5 e5
          go_wp2_with fail
          rw [← H5.out.2]
          refine HK.out _ _ H5.out.1 (fun hHeld => ?_)
          clear HK HS z0 z1 z2 z3 zf
          refine wpAnyH_take (i := 10) (oi := _) (v := .bool true) rfl (by kernel_rfl) (by kernel_rfl) (by kernel_rfl) (fun _ _ _ h => h) (Or.inl ⟨by rfl, ?_⟩) (by assumption) ?_
          · clear hHeld; intro X hSw; clear hSw; go_simp
          simp only [Act.put, List.getElem_toArray, List.getElem_cons_zero, List.getElem_cons_succ, List.setIfInBounds_toArray, List.set_cons_zero, List.set_cons_succ]
          refine wpAnyH_done (by kernel_rfl) ?_ _
          clear hHeld
          have hown5 := owns_kept HG.out.2.2.1 (w' := V5) (fun g cur hc _ => H5.out.1.block g (lt_of_some hc))
          have HO5 := Lib.hid hown5
          clear hown5
          go_wp2_with (at_builtin; refine wpList_append_own_at _ rfl (.tmp 34) (.tmp 37) _ rfl w.heap.size 3 i0 (.int .i64 0) 1 8 Try.underlying29 HI.out.1 HI.out.2.1 HI.out.2.2.1 HI.out.2.2.2 rfl (by omega) (.slice ra j rc) j _ rfl (HO5.out.alloc _) ⟨V5.heap.size, 0, none⟩ 1 1 [.int .i64 uid] rfl rfl (World.news_of_block (heap_alloc_new V5 _)) (by simp [Value.oneCell']) (by unfold maxLen; omega) (by omega) (by have h1 := HG.out.2.2.2.1; have h2 := H5.out.1.size; rw [World.size_alloc]; omega) ?_; intro v' w7 hown7 hgrow _ hat; have H7 := Lib.hid (HNX.out V5 w7 v' _ H5.out.1 hown7 hgrow hat); clear hown7 hgrow hat)
          exact ⟨⟨j + 1, HG.out.1, by have h9 := HG.out.2.1; congr 1; omega, H7⟩, by have h9 := HG.out.2.1; have h8 := HG.out.1; simp [intOf] <;> omega⟩
        · rw [if_pos (by rfl)]
          simp only [List.getElem_toArray, List.getElem_cons_zero, List.getElem_cons_succ]
          have HK := Lib.hid hK
          have HS := Lib.hid hHeld
          clear hK hHeld
          go_wp2_with fail
          obtain ⟨WA, hWA⟩ : ∃ WA, WA = (World.alloc wr (.cells #[.int .i64 0, .int .i64 0, .string ⟨#[]⟩, .slice none 0 0] 24)).drew := ⟨_, rfl⟩
          rw [← hWA]
          have hza : WA.heap[wr.heap.size]? = some (.cells #[.int .i64 0, .int .i64 0, .string ⟨#[]⟩, .slice none 0 0] 24 (0, 0)) := by rw [hWA]; exact heap_alloc_new wr _
          have hba : Below wr.heap.size wr WA := by rw [hWA]; exact below_drewN (box_below _ _) 1
          have HA := Lib.hid (And.intro hza (And.intro hba (show wr.heap.size ≤ wr.heap.size from Nat.le_refl _)))
          refine HK.out _ _ hba (fun hHeld => ?_)
          clear HK HS hza hba hWA
          refine wpAnyH_ready (rs := [4]) (by kernel_rfl) (by simp) ?_
          refine AllReadyH.cons (o := _) rfl (fun K hK => ?_) AllReadyH.nil
          rw [if_pos (by rfl)]
          simp only [List.getElem_toArray, List.getElem_cons_zero, List.getElem_cons_succ]
          have HK := Lib.hid hK
          have HS := Lib.hid hHeld
          clear hK hHeld
          go_wp2_with (go_at_call 21; refine (HAT.out _ HS.out).mono ?_; rintro e w4 ⟨⟨ya, yc, rfl⟩, hb4, hb4b⟩; have H4 := Lib.hid hb4; have H4b := Lib.hid (hb4b.block _ (lt_of_heap HA.out.1)); clear hb4 hb4b)
          refine HK.out _ _ H4.out (fun hHeld => ?_)
          clear HK HS
          refine wpAnyH_take (i := 5) (oi := _) (v := .tuple #[.agg #[.int .i64 uid, .int .i64 ukd, .string utx, .slice ya um yc], .bool true]) rfl (by kernel_rfl) (by kernel_rfl) (by kernel_rfl) (fun _ _ _ h => h) (Or.inl ⟨by rfl, ?_⟩) (by assumption) ?_
          · clear hHeld; intro X hSw; clear hSw; go_simp
          simp only [Act.put, List.getElem_toArray, List.getElem_cons_zero, List.getElem_cons_succ, List.setIfInBounds_toArray, List.set_cons_zero, List.set_cons_succ]
          refine wpAnyH_take (i := 6) (oi := _) (v := .agg #[.int .i64 uid, .int .i64 ukd, .string utx, .slice ya um yc]) rfl (by kernel_rfl) (by kernel_rfl) (by kernel_rfl) (fun _ _ _ h => h) (Or.inl ⟨by rfl, ?_⟩) (by assumption) ?_
          · clear hHeld; intro X hSw; clear hSw; go_simp
          simp only [Act.put, List.getElem_toArray, List.getElem_cons_zero, List.getElem_cons_succ, List.setIfInBounds_toArray, List.set_cons_zero, List.set_cons_succ]
          refine wpAnyH_take (i := 7) (oi := _) (v := .bool true) rfl (by kernel_rfl) (by kernel_rfl) (by kernel_rfl) (fun _ _ _ h => h) (Or.inl ⟨by rfl, ?_⟩) (by assumption) ?_
          · clear hHeld; intro X hSw; clear hSw; go_simp
          simp only [Act.put, List.getElem_toArray, List.getElem_cons_zero, List.getElem_cons_succ, List.setIfInBounds_toArray, List.set_cons_zero, List.set_cons_succ]
          refine wpAnyH_ready (rs := [9]) (by kernel_rfl) (by simp) ?_
          refine AllReadyH.cons (o := _) rfl (fun K hK => ?_) AllReadyH.nil
          rw [if_pos (by rfl)]
          simp only [List.getElem_toArray, List.getElem_cons_zero, List.getElem_cons_succ]
          have HK := Lib.hid hK
          have HS := Lib.hid hHeld
          clear hK hHeld
          have hz : w4.heap[wr.heap.size]? = some (.cells #[.int .i64 0, .int .i64 0, .string ⟨#[]⟩, .slice none 0 0] 24 (0, 0)) := (H4b.out).trans HA.out.1
          have z0 : w4.cell? ⟨wr.heap.size, 0, none⟩ = some (.int .i64 0) := by rw [cell_of_row _ _ 0 _ _ _ hz]; rfl
          have z1 : w4.cell? ⟨wr.heap.size, 1, none⟩ = some (.int .i64 0) := by rw [cell_of_row _ _ 1 _ _ _ hz]; rfl
          have z2 : w4.cell? ⟨wr.heap.size, 2, none⟩ = some (.string ⟨#[]⟩) := by rw [cell_of_row _ _ 2 _ _ _ hz]; rfl
          have z3 : w4.cell? ⟨wr.heap.size, 3, none⟩ = some (.slice none 0 0) := by rw [cell_of_row _ _ 3 _ _ _ hz]; rfl
          have zf : ∀ j, w4.frozen? ⟨wr.heap.size, j, none⟩ = false := fun j => frozen_of_row _ _ j _ _ hz
          obtain ⟨V5, e5, r1, r2, r3, r4, r5, r6⟩ := four_set (u0 := .int .i64 uid) (u1 := .int .i64 ukd) (u2 := .string utx) (u3 := .slice ya um yc) hz
          have hb5 : Below wr.heap.size wr V5 := ⟨r3.trans HS.out.os, r4.trans HS.out.tape, r5.trans HS.out.output, by rw [r6]; exact HS.out.size, fun y hy => (r2 y (by have := HA.out.2.2; omega)).trans (HS.out.block y hy)⟩
          have h5c : V5.cell? ⟨wr.heap.size, 0, none⟩ = some (.int .i64 uid) := by rw [cell_of_row _ _ 0 _ _ _ r1]; rfl
          have H5 := Lib.hid (And.intro hb5 e5)
          clear hz r1 r2 r3 r4 r5 r6 hb5 e5
          go_wp2_with fail
          rw [← H5.out.2]
          refine HK.out _ _ H5.out.1 (fun hHeld => ?_)
          clear HK HS z0 z1 z2 z3 zf
          refine wpAnyH_take (i := 10) (oi := _) (v := .bool true) rfl (by kernel_rfl) (by kernel_rfl) (by kernel_rfl) (fun _ _ _ h => h) (Or.inl ⟨by rfl, ?_⟩) (by assumption) ?_
          · clear hHeld; intro X hSw; clear hSw; go_simp
          simp only [Act.put, List.getElem_toArray, List.getElem_cons_zero, List.getElem_cons_succ, List.setIfInBounds_toArray, List.set_cons_zero, List.set_cons_succ]
          refine wpAnyH_done (by kernel_rfl) ?_ _
          clear hHeld
          have hown5 := owns_kept HG.out.2.2.1 (w' := V5) (fun g cur hc _ => H5.out.1.block g (lt_of_some hc))
          have HO5 := Lib.hid hown5
          clear hown5
          go_wp2_with (at_builtin; refine wpList_append_own_at _ rfl (.tmp 34) (.tmp 37) _ rfl w.heap.size 3 i0 (.int .i64 0) 1 8 Try.underlying29 HI.out.1 HI.out.2.1 HI.out.2.2.1 HI.out.2.2.2 rfl (by omega) (.slice ra j rc) j _ rfl (HO5.out.alloc _) ⟨V5.heap.size, 0, none⟩ 1 1 [.int .i64 uid] rfl rfl (World.news_of_block (heap_alloc_new V5 _)) (by simp [Value.oneCell']) (by unfold maxLen; omega) (by omega) (by have h1 := HG.out.2.2.2.1; have h2 := H5.out.1.size; rw [World.size_alloc]; omega) ?_; intro v' w7 hown7 hgrow _ hat; have H7 := Lib.hid (HNX.out V5 w7 v' _ H5.out.1 hown7 hgrow hat); clear hown7 hgrow hat)
          exact ⟨⟨j + 1, HG.out.1, by have h9 := HG.out.2.1; congr 1; omega, H7⟩, by have h9 := HG.out.2.1; have h8 := HG.out.1; simp [intOf] <;> omega⟩
      · have hjn : j = n := by omega
        have hneg : ¬ (0 : Int) ≤ (n : Int) - 1 - (j : Int) := by omega
        have HO := Lib.hid (And.intro hh.out hjn)
        obtain ⟨z, hz⟩ : ∃ z, z = (n : Int) - 1 - (j : Int) := ⟨_, rfl⟩
        rw [← hz] at hneg ⊢
        clear hh hj hlt hz hjn
        go_wp2_with fail
        go_ret
        obtain ⟨ho, hjn⟩ := HO.out
        refine ⟨u7, rfl, ?_, ho.below⟩
        rw [HE.out.1]
        have h9 := ho.row
        rw [hjn] at h9
        have hl : (RAbList t p n).length = n := by rw [RAbList, List.length_take, List.length_reverse, List.length_take]; simp [wayIds]; have := HE.out.2.1; omega
        rw [hl]; exact h9
end Go.Proofs.Ytjppibomjnmjpaa
